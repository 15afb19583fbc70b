/- What wal.Open answers: a disk's log, and its texts; and what a log says of itself. Conditions: the table of half bytes reads as the program's text lays it; the log's first number is below 2^64 - 513. -/
import Derived.Test.YtfcljcikajaedaaDoorMg42
namespace Go.Proofs.YtfcljcikajaedaaDoor
open Go.RowKit Go.Maps

/-- What Open answers. -/
def OpenP (w : World) (b : Nat) (x : Option (Lm × List (List UInt8)) × Int) (e : Ending) (w' : World) : Prop := match x with
  | (none, c) => e = .returned (.tuple #[.pointer none, .slice none 0 0, .int .i64 c]) ∧ Kp (fun _ => False) w w'
  | (some (l, u), _) => ∃ g v, e = .returned (.tuple #[.pointer (some ⟨g, 0, none⟩), v, .int .i64 0]) ∧ Box w' g 47 (lcs b l) ∧ w'.ownsRow w.heap.size 9 1 v u.length (strs u) ∧ w.heap.size ≤ g ∧ Kp (fun _ => False) w w'
theorem own_base' {w : World} {B B' : Nat} {e : TypeId} {size n : Nat} {v : Value} {xs : List Value} (h : w.ownsRow B e size v n xs) (hB : B' ≤ B) : w.ownsRow B' e size v n xs := by
  refine ⟨h.1, ?_⟩
  rcases h.2 with h2 | ⟨g, cap, cur, rfl, hb, r⟩
  · exact .inl h2
  · exact .inr ⟨g, cap, cur, rfl, Nat.le_trans hB hb, r⟩
section
variable {w : World} {b : Nat} {d : Dm} {F : Nat → Prop}
set_option maxRecDepth 100000 in
set_option maxHeartbeats 8000000 in
theorem open_any (hD : Dsk F w b d) (ht : Tbl w) (hfb : ∀ h a, d.heads = some (h, a) → h.f + 513 < 18446744073709551616) :
    Calls Tryd.prog 5 #[.pointer (some ⟨b, 0, none⟩)] w (OpenP w b d.openS) := by
  have DD := Lib.hid hD
  have HT := Lib.hid ht
  have hfew : d.on.length ≤ 4096 := by obtain ⟨_, _, _, h1, _⟩ := hD; exact h1.ok.few
  have hfm : d.openS = if !d.power then (none, (4 : Int)) else match d.heads with
      | none => (none, (12 : Int))
      | some (h, a) => if 2 + h.n ≤ d.on.length then (some ((⟨h, a, nextF d.nowAt h.n h.f, 0, false⟩ : Lm), textsF d.nowAt h.n h.f), (0 : Int)) else (none, (12 : Int)) := rfl
  have hcv : countV d = if d.power then (match d.heads with
      | some (h, a) => .tuple #[.agg (hcs h a).toArray, .bool true, .int .i64 0]
      | none => .tuple #[.agg #[.int .u64 0, .int .u64 0, .int .i64 0, .string ⟨#[]⟩, .int .i64 0], .bool false, .int .i64 0])
    else .tuple #[.agg #[.int .u64 0, .int .u64 0, .int .i64 0, .string ⟨#[]⟩, .int .i64 0], .bool false, .int .i64 4] := rfl
  clear hD ht
  rcases hpw : d.power with _ | _
  · have HX := Lib.hid (show d.openS = (none, 4) by rw [hfm, hpw]; rfl)
    have HCV := Lib.hid (show countV d = .tuple #[.agg #[.int .u64 0, .int .u64 0, .int .i64 0, .string ⟨#[]⟩, .int .i64 0], .bool false, .int .i64 4] by rw [hcv, hpw]; rfl)
    clear hfm hcv hpw hfb
    go_enter Tryd.func5, Tryd.ntmps5
    go_wp2_with fail
    refine (counting_any DD.out HT.out).mono ?_
    rintro e w1 ⟨rfl, hk⟩
    rw [HCV.out]
    have B2 := Lib.hid (Box.new w1 39 #[.int .u64 0, .int .u64 0, .int .i64 0, .string ⟨#[]⟩, .int .i64 0])
    have K2 := Lib.hid (hk.alloc (.cells #[.int .u64 0, .int .u64 0, .int .i64 0, .string ⟨#[]⟩, .int .i64 0] 39))
    have hg5 := hk.size
    clear hk
    go_upto_region 4 with fail
    generalize w1.alloc (.cells #[.int .u64 0, .int .u64 0, .int .i64 0, .string ⟨#[]⟩, .int .i64 0] 39) = w2 at *
    generalize w1.heap.size = g5 at *
    have D2 := Lib.hid (DD.out.still K2.out)
    go_wp2_with fail
    refine bodyPost_ret (v := .tuple #[.pointer none, .slice none 0 0, .int .i64 4]) (by simp [results, Tryd.results5, go_sem]) rfl ?_
    rw [HX.out]
    exact ⟨rfl, K2.out⟩
  rw [hpw, Bool.not_true, if_neg (by decide)] at hfm
  rw [hpw, if_pos rfl] at hcv
  rcases hh : d.heads with _ | ⟨h, a⟩
  · rw [hh] at hfm hcv
    have HX := Lib.hid hfm
    have HCV := Lib.hid hcv
    clear hfm hcv hpw hfb hh
    go_enter Tryd.func5, Tryd.ntmps5
    go_wp2_with fail
    refine (counting_any DD.out HT.out).mono ?_
    rintro e w1 ⟨rfl, hk⟩
    rw [HCV.out]
    have B2 := Lib.hid (Box.new w1 39 #[.int .u64 0, .int .u64 0, .int .i64 0, .string ⟨#[]⟩, .int .i64 0])
    have K2 := Lib.hid (hk.alloc (.cells #[.int .u64 0, .int .u64 0, .int .i64 0, .string ⟨#[]⟩, .int .i64 0] 39))
    have hg5 := hk.size
    clear hk
    go_upto_region 4 with fail
    generalize w1.alloc (.cells #[.int .u64 0, .int .u64 0, .int .i64 0, .string ⟨#[]⟩, .int .i64 0] 39) = w2 at *
    generalize w1.heap.size = g5 at *
    have D2 := Lib.hid (DD.out.still K2.out)
    go_upto_region 6 with fail
    refine wp_region_held_drew (S := fun v => v.cell? ⟨g5, 0, none⟩ = some (.int .u64 0) ∧ v.cell? ⟨g5, 1, none⟩ = some (.int .u64 0) ∧ v.cell? ⟨g5, 2, none⟩ = some (.int .i64 0) ∧ v.cell? ⟨g5, 3, none⟩ = some (.string ⟨#[]⟩) ∧ v.cell? ⟨g5, 4, none⟩ = some (.int .i64 0)) (by kernel_rfl) (⟨(B2.out.cell 0), (B2.out.cell 1), (B2.out.cell 2), (B2.out.cell 3), (B2.out.cell 4)⟩) (fun hHeld => ?_)
    refine wpAnyH_take (i := 0) (oi := { dst := some 20, op := Op.move (Operand.tmp 6), type := 4, pos := "wal.go:51", after := #[], guard := none }) (v := ?_) rfl (by kernel_rfl) (by kernel_rfl) (by kernel_rfl) (fun _ _ _ h => h) (Or.inl ⟨by rfl, ?_⟩) (by assumption) ?_
    rotate_left
    · intro v hSw
      try dsimp only at hSw
      go_simp
      with_reducible rfl
    try simp only [Act.put, List.setIfInBounds_toArray, List.set_cons_zero, List.set_cons_succ]
    refine wpAnyH_take (i := 1) (oi := { dst := some 21, op := Op.unOp UnOp.not 4 (Operand.tmp 20), type := 4, pos := "wal.go:51", after := #[{ on := 0, ground := Ground.data }], guard := none }) (v := ?_) rfl (by kernel_rfl) (by kernel_rfl) (by kernel_rfl) (fun _ _ _ h => h) (Or.inl ⟨by rfl, ?_⟩) (by assumption) ?_
    rotate_left
    · intro v hSw
      try dsimp only at hSw
      go_simp
      with_reducible rfl
    try simp only [Act.put, List.setIfInBounds_toArray, List.set_cons_zero, List.set_cons_succ]
    refine wpAnyH_take (i := 2) (oi := { dst := some 22, op := Op.move (Operand.tmp 21), type := 4, pos := "wal.go:51", after := #[{ on := 1, ground := Ground.data }], guard := none }) (v := ?_) rfl (by kernel_rfl) (by kernel_rfl) (by kernel_rfl) (fun _ _ _ h => h) (Or.inl ⟨by rfl, ?_⟩) (by assumption) ?_
    rotate_left
    · intro v hSw
      try dsimp only at hSw
      go_simp
      with_reducible rfl
    try simp only [Act.put, List.setIfInBounds_toArray, List.set_cons_zero, List.set_cons_succ]
    refine wpAnyH_take (i := 3) (oi := { dst := some 23, op := Op.fieldAddr 39 (Operand.tmp 5) 2, type := 0, pos := "wal.go:51", after := #[{ on := 2, ground := Ground.guard }], guard := some (2, false) }) (v := undef) rfl (by kernel_rfl) (by kernel_rfl) (by kernel_rfl) (fun _ _ _ h => h) (Or.inr ⟨by rfl, rfl⟩) (by assumption) ?_
    try simp only [Act.put, List.setIfInBounds_toArray, List.set_cons_zero, List.set_cons_succ]
    refine wpAnyH_take (i := 4) (oi := { dst := some 24, op := Op.load 3 (Operand.tmp 23), type := 3, pos := "wal.go:51", after := #[{ on := 3, ground := Ground.data }, { on := 2, ground := Ground.guard }], guard := some (2, false) }) (v := undef) rfl (by kernel_rfl) (by kernel_rfl) (by kernel_rfl) (fun _ _ _ h => h) (Or.inr ⟨by rfl, rfl⟩) (by assumption) ?_
    try simp only [Act.put, List.setIfInBounds_toArray, List.set_cons_zero, List.set_cons_succ]
    refine wpAnyH_take (i := 5) (oi := { dst := some 25, op := Op.binOp BinOp.add 3 (Operand.const (Value.int IntKind.i64 2)) (Operand.tmp 24) 3, type := 3, pos := "wal.go:51", after := #[{ on := 4, ground := Ground.data }, { on := 2, ground := Ground.guard }], guard := some (2, false) }) (v := undef) rfl (by kernel_rfl) (by kernel_rfl) (by kernel_rfl) (fun _ _ _ h => h) (Or.inr ⟨by rfl, rfl⟩) (by assumption) ?_
    try simp only [Act.put, List.setIfInBounds_toArray, List.set_cons_zero, List.set_cons_succ]
    refine wpAnyH_take (i := 6) (oi := { dst := some 26, op := Op.move (Operand.tmp 0), type := 34, pos := "wal.go:51", after := #[{ on := 2, ground := Ground.guard }], guard := some (2, false) }) (v := undef) rfl (by kernel_rfl) (by kernel_rfl) (by kernel_rfl) (fun _ _ _ h => h) (Or.inr ⟨by rfl, rfl⟩) (by assumption) ?_
    try simp only [Act.put, List.setIfInBounds_toArray, List.set_cons_zero, List.set_cons_succ]
    refine wpAnyH_take (i := 7) (oi := { dst := some 27, op := Op.call { callee := Callee.value (Operand.func 14), args := #[Operand.tmp 26], argTypes := #[34] }, type := 3, pos := "wal.go:51", after := #[{ on := 6, ground := Ground.data }, { on := 2, ground := Ground.chain }, { on := 2, ground := Ground.guard }], guard := some (2, false) }) (v := undef) rfl (by kernel_rfl) (by kernel_rfl) (by kernel_rfl) (fun _ _ _ h => h) (Or.inr ⟨by rfl, rfl⟩) (by assumption) ?_
    try simp only [Act.put, List.setIfInBounds_toArray, List.set_cons_zero, List.set_cons_succ]
    refine wpAnyH_take (i := 8) (oi := { dst := some 28, op := Op.binOp BinOp.gtr 3 (Operand.tmp 25) (Operand.tmp 27) 3, type := 4, pos := "wal.go:51", after := #[{ on := 5, ground := Ground.data }, { on := 7, ground := Ground.data }, { on := 2, ground := Ground.guard }], guard := some (2, false) }) (v := undef) rfl (by kernel_rfl) (by kernel_rfl) (by kernel_rfl) (fun _ _ _ h => h) (Or.inr ⟨by rfl, rfl⟩) (by assumption) ?_
    try simp only [Act.put, List.setIfInBounds_toArray, List.set_cons_zero, List.set_cons_succ]
    refine wpAnyH_take (i := 9) (oi := { dst := some 29, op := Op.pick (Operand.tmp 22) (Operand.const (Value.bool true)) (Operand.tmp 28), type := 4, pos := "wal.go:51", after := #[{ on := 2, ground := Ground.data }, { on := 8, ground := Ground.data }], guard := none }) (v := ?_) rfl (by kernel_rfl) (by kernel_rfl) (by kernel_rfl) (fun _ _ _ h => h) (Or.inl ⟨by rfl, ?_⟩) (by assumption) ?_
    rotate_left
    · intro v hSw
      try dsimp only at hSw
      go_simp
      with_reducible rfl
    try simp only [Act.put, List.setIfInBounds_toArray, List.set_cons_zero, List.set_cons_succ]
    refine wpAnyH_done (by kernel_rfl) ?_ _
    go_wp2_with fail
    refine bodyPost_ret (v := .tuple #[.pointer none, .slice none 0 0, .int .i64 12]) (by simp [results, Tryd.results5, go_sem]) rfl ?_
    rw [HX.out]
    exact ⟨rfl, K2.out.drew⟩
  · have hok : h.ok := by
      rcases countS_at hh with ⟨_, e⟩ | ⟨_, e⟩ <;> exact (headS_some e).2.2.1
    have HOK := Lib.hid hok
    have HFB := Lib.hid (hfb h a hh)
    have hn0 : 0 < h.n := by have := hok.lo; omega
    have hn5 : h.n ≤ 512 := hok.hi
    rw [hh] at hfm hcv
    simp only [hcs] at hcv
    have HCV := Lib.hid hcv
    have HPW := Lib.hid hpw
    by_cases hlen : 2 + h.n ≤ d.on.length
    · obtain ⟨z, hz⟩ : ∃ z : Int, 2 + (h.n : Int) = z := ⟨_, rfl⟩
      have hd1 : decide ((d.on.length : Int) < z) = false := by simp; omega
      have hwn : IntKind.i64.wrap (2 + (h.n : Int)) = z := by rw [IntWalk.i64_in _ (by omega)]; exact hz
      have HX := Lib.hid (show d.openS = (some ((⟨h, a, nextF d.nowAt h.n h.f, 0, false⟩ : Lm), textsF d.nowAt h.n h.f), 0) by rw [hfm]; dsimp only; rw [if_pos hlen])
      clear hfm hcv hpw hfb hh hok hz
      go_enter Tryd.func5, Tryd.ntmps5
      go_wp2_with fail
      refine (counting_any DD.out HT.out).mono ?_
      rintro e w1 ⟨rfl, hk⟩
      rw [HCV.out]
      have B2 := Lib.hid (Box.new w1 39 #[.int .u64 h.g, .int .u64 h.f, .int .i64 h.n, .string ⟨h.note.toArray⟩, .int .i64 a])
      have K2 := Lib.hid (hk.alloc (.cells #[.int .u64 h.g, .int .u64 h.f, .int .i64 h.n, .string ⟨h.note.toArray⟩, .int .i64 a] 39))
      have hg5 := hk.size
      clear hk
      go_upto_region 4 with fail
      generalize w1.alloc (.cells #[.int .u64 h.g, .int .u64 h.f, .int .i64 h.n, .string ⟨h.note.toArray⟩, .int .i64 a] 39) = w2 at *
      generalize w1.heap.size = g5 at *
      have D2 := Lib.hid (DD.out.still K2.out)
      go_upto_region 6 with fail
      refine wp_region_held_drew (S := fun v => v.cell? ⟨g5, 0, none⟩ = some (.int .u64 h.g) ∧ v.cell? ⟨g5, 1, none⟩ = some (.int .u64 h.f) ∧ v.cell? ⟨g5, 2, none⟩ = some (.int .i64 h.n) ∧ v.cell? ⟨g5, 3, none⟩ = some (.string ⟨h.note.toArray⟩) ∧ v.cell? ⟨g5, 4, none⟩ = some (.int .i64 a)) (by kernel_rfl) (⟨(B2.out.cell 0), (B2.out.cell 1), (B2.out.cell 2), (B2.out.cell 3), (B2.out.cell 4)⟩) (fun hHeld => ?_)
      refine wpAnyH_take (i := 0) (oi := { dst := some 20, op := Op.move (Operand.tmp 6), type := 4, pos := "wal.go:51", after := #[], guard := none }) (v := ?_) rfl (by kernel_rfl) (by kernel_rfl) (by kernel_rfl) (fun _ _ _ h => h) (Or.inl ⟨by rfl, ?_⟩) (by assumption) ?_
      rotate_left
      · intro v hSw
        try dsimp only at hSw
        go_simp
        with_reducible rfl
      try simp only [Act.put, List.setIfInBounds_toArray, List.set_cons_zero, List.set_cons_succ]
      refine wpAnyH_take (i := 1) (oi := { dst := some 21, op := Op.unOp UnOp.not 4 (Operand.tmp 20), type := 4, pos := "wal.go:51", after := #[{ on := 0, ground := Ground.data }], guard := none }) (v := ?_) rfl (by kernel_rfl) (by kernel_rfl) (by kernel_rfl) (fun _ _ _ h => h) (Or.inl ⟨by rfl, ?_⟩) (by assumption) ?_
      rotate_left
      · intro v hSw
        try dsimp only at hSw
        go_simp
        with_reducible rfl
      try simp only [Act.put, List.setIfInBounds_toArray, List.set_cons_zero, List.set_cons_succ]
      refine wpAnyH_take (i := 2) (oi := { dst := some 22, op := Op.move (Operand.tmp 21), type := 4, pos := "wal.go:51", after := #[{ on := 1, ground := Ground.data }], guard := none }) (v := ?_) rfl (by kernel_rfl) (by kernel_rfl) (by kernel_rfl) (fun _ _ _ h => h) (Or.inl ⟨by rfl, ?_⟩) (by assumption) ?_
      rotate_left
      · intro v hSw
        try dsimp only at hSw
        go_simp
        with_reducible rfl
      try simp only [Act.put, List.setIfInBounds_toArray, List.set_cons_zero, List.set_cons_succ]
      refine wpAnyH_take (i := 3) (oi := { dst := some 23, op := Op.fieldAddr 39 (Operand.tmp 5) 2, type := 0, pos := "wal.go:51", after := #[{ on := 2, ground := Ground.guard }], guard := some (2, false) }) (v := ?_) rfl (by kernel_rfl) (by kernel_rfl) (by kernel_rfl) (fun _ _ _ h => h) (Or.inl ⟨by rfl, ?_⟩) (by assumption) ?_
      rotate_left
      · intro v hSw
        try dsimp only at hSw
        go_simp
        with_reducible rfl
      try simp only [Act.put, List.setIfInBounds_toArray, List.set_cons_zero, List.set_cons_succ]
      refine wpAnyH_take (i := 4) (oi := { dst := some 24, op := Op.load 3 (Operand.tmp 23), type := 3, pos := "wal.go:51", after := #[{ on := 3, ground := Ground.data }, { on := 2, ground := Ground.guard }], guard := some (2, false) }) (v := ?_) rfl (by kernel_rfl) (by kernel_rfl) (by kernel_rfl) (fun _ _ _ h => h) (Or.inl ⟨by rfl, ?_⟩) (by assumption) ?_
      rotate_left
      · intro v hSw
        try dsimp only at hSw
        go_simp
        with_reducible rfl
      try simp only [Act.put, List.setIfInBounds_toArray, List.set_cons_zero, List.set_cons_succ]
      refine wpAnyH_take (i := 5) (oi := { dst := some 25, op := Op.binOp BinOp.add 3 (Operand.const (Value.int IntKind.i64 2)) (Operand.tmp 24) 3, type := 3, pos := "wal.go:51", after := #[{ on := 4, ground := Ground.data }, { on := 2, ground := Ground.guard }], guard := some (2, false) }) (v := ?_) rfl (by kernel_rfl) (by kernel_rfl) (by kernel_rfl) (fun _ _ _ h => h) (Or.inl ⟨by rfl, ?_⟩) (by assumption) ?_
      rotate_left
      · intro v hSw
        try dsimp only at hSw
        go_simp
        with_reducible rfl
      try simp only [Act.put, List.setIfInBounds_toArray, List.set_cons_zero, List.set_cons_succ]
      refine wpAnyH_take (i := 6) (oi := { dst := some 26, op := Op.move (Operand.tmp 0), type := 34, pos := "wal.go:51", after := #[{ on := 2, ground := Ground.guard }], guard := some (2, false) }) (v := ?_) rfl (by kernel_rfl) (by kernel_rfl) (by kernel_rfl) (fun _ _ _ h => h) (Or.inl ⟨by rfl, ?_⟩) (by assumption) ?_
      rotate_left
      · intro v hSw
        try dsimp only at hSw
        go_simp
        with_reducible rfl
      try simp only [Act.put, List.setIfInBounds_toArray, List.set_cons_zero, List.set_cons_succ]
      refine wpAnyH_ready (rs := [7]) (by kernel_rfl) (by simp) ?_
      refine AllReadyH.cons (o := { dst := some 27, op := Op.call { callee := Callee.value (Operand.func 14), args := #[Operand.tmp 26], argTypes := #[34] }, type := 3, pos := "wal.go:51", after := #[{ on := 6, ground := Ground.data }, { on := 2, ground := Ground.chain }, { on := 2, ground := Ground.guard }], guard := some (2, false) }) rfl (fun K hK => ?_) AllReadyH.nil
      go_simp
      refine (len_any (D2.out.still (Kp.refl (fun _ => False) w2).drew)).mono ?_
      rintro e w3 ⟨rfl, rfl⟩
      go_wp2_with fail
      refine hK.out _ _ (⟨(B2.out.drew.cell 0), (B2.out.drew.cell 1), (B2.out.drew.cell 2), (B2.out.drew.cell 3), (B2.out.drew.cell 4)⟩) (fun hHeld1 => ?_)
      clear hK K
      try simp only [Act.put, List.setIfInBounds_toArray, List.set_cons_zero, List.set_cons_succ]
      refine wpAnyH_take (i := 8) (oi := { dst := some 28, op := Op.binOp BinOp.gtr 3 (Operand.tmp 25) (Operand.tmp 27) 3, type := 4, pos := "wal.go:51", after := #[{ on := 5, ground := Ground.data }, { on := 7, ground := Ground.data }, { on := 2, ground := Ground.guard }], guard := some (2, false) }) (v := ?_) rfl (by kernel_rfl) (by kernel_rfl) (by kernel_rfl) (fun _ _ _ h => h) (Or.inl ⟨by rfl, ?_⟩) (by assumption) ?_
      rotate_left
      · intro v hSw
        try dsimp only at hSw
        go_simp
        with_reducible rfl
      try simp only [Act.put, List.setIfInBounds_toArray, List.set_cons_zero, List.set_cons_succ]
      refine wpAnyH_take (i := 9) (oi := { dst := some 29, op := Op.pick (Operand.tmp 22) (Operand.const (Value.bool true)) (Operand.tmp 28), type := 4, pos := "wal.go:51", after := #[{ on := 2, ground := Ground.data }, { on := 8, ground := Ground.data }], guard := none }) (v := ?_) rfl (by kernel_rfl) (by kernel_rfl) (by kernel_rfl) (fun _ _ _ h => h) (Or.inl ⟨by rfl, ?_⟩) (by assumption) ?_
      rotate_left
      · intro v hSw
        try dsimp only at hSw
        go_simp
        with_reducible rfl
      try simp only [Act.put, List.setIfInBounds_toArray, List.set_cons_zero, List.set_cons_succ]
      refine wpAnyH_done (by kernel_rfl) ?_ _
      clear hwn hd1 hHeld
      have B3 := Lib.hid (B2.out.drew)
      have K3 := Lib.hid (K2.out.drew)
      have D3 := Lib.hid (DD.out.still K3.out)
      generalize w2.drew = w3 at *
      have c2 := B3.out.cell 2
      simp at c2
      go_wp2_with fail
      refine (inPlace_any D3.out (HT.out.kp K3.out (fun e => e)) h.n hn0 hn5 hlen HPW.out).mono ?_
      rintro e w4 ⟨gm, rfl, _, hfm3, hk3⟩
      have B4 := Lib.hid (B3.out.kp hk3 (fun e => e))
      have K4 := Lib.hid (K3.out.trans hk3)
      have F4 := Lib.hid hfm3
      clear hfm3 hk3 c2
      go_upto_region 11 with fail
      refine wp_region_held_drew (S := fun v => v.cell? ⟨g5, 0, none⟩ = some (.int .u64 h.g) ∧ v.cell? ⟨g5, 1, none⟩ = some (.int .u64 h.f) ∧ v.cell? ⟨g5, 2, none⟩ = some (.int .i64 h.n) ∧ v.cell? ⟨g5, 3, none⟩ = some (.string ⟨h.note.toArray⟩) ∧ v.cell? ⟨g5, 4, none⟩ = some (.int .i64 a)) (by kernel_rfl) (⟨(B4.out.cell 0), (B4.out.cell 1), (B4.out.cell 2), (B4.out.cell 3), (B4.out.cell 4)⟩) (fun hHeld => ?_)
      refine wpAnyH_take (i := 0) (oi := { dst := some 40, op := Op.move (Operand.tmp 0), type := 34, pos := "wal.go:58", after := #[], guard := none }) (v := ?_) rfl (by kernel_rfl) (by kernel_rfl) (by kernel_rfl) (fun _ _ _ h => h) (Or.inl ⟨by rfl, ?_⟩) (by assumption) ?_
      rotate_left
      · intro v hSw
        try dsimp only at hSw
        go_simp
        with_reducible rfl
      try simp only [Act.put, List.setIfInBounds_toArray, List.set_cons_zero, List.set_cons_succ]
      refine wpAnyH_take (i := 1) (oi := { dst := some 41, op := Op.load 39 (Operand.tmp 5), type := 39, pos := "wal.go:58", after := #[], guard := none }) (v := ?_) rfl (by kernel_rfl) (by kernel_rfl) (by kernel_rfl) (fun _ _ _ h => h) (Or.inl ⟨by rfl, ?_⟩) (by assumption) ?_
      rotate_left
      · intro v hSw
        try dsimp only at hSw
        go_simp
        with_reducible rfl
      try simp only [Act.put, List.setIfInBounds_toArray, List.set_cons_zero, List.set_cons_succ]
      refine wpAnyH_take (i := 2) (oi := { dst := some 42, op := Op.move (Operand.tmp 8), type := 42, pos := "wal.go:58", after := #[], guard := none }) (v := ?_) rfl (by kernel_rfl) (by kernel_rfl) (by kernel_rfl) (fun _ _ _ h => h) (Or.inl ⟨by rfl, ?_⟩) (by assumption) ?_
      rotate_left
      · intro v hSw
        try dsimp only at hSw
        go_simp
        with_reducible rfl
      try simp only [Act.put, List.setIfInBounds_toArray, List.set_cons_zero, List.set_cons_succ]
      refine wpAnyH_take (i := 3) (oi := { dst := some 43, op := Op.fieldAddr 39 (Operand.tmp 5) 1, type := 0, pos := "wal.go:58", after := #[], guard := none }) (v := ?_) rfl (by kernel_rfl) (by kernel_rfl) (by kernel_rfl) (fun _ _ _ h => h) (Or.inl ⟨by rfl, ?_⟩) (by assumption) ?_
      rotate_left
      · intro v hSw
        try dsimp only at hSw
        go_simp
        with_reducible rfl
      try simp only [Act.put, List.setIfInBounds_toArray, List.set_cons_zero, List.set_cons_succ]
      refine wpAnyH_take (i := 4) (oi := { dst := some 44, op := Op.load 37 (Operand.tmp 43), type := 37, pos := "wal.go:58", after := #[{ on := 3, ground := Ground.data }], guard := none }) (v := ?_) rfl (by kernel_rfl) (by kernel_rfl) (by kernel_rfl) (fun _ _ _ h => h) (Or.inl ⟨by rfl, ?_⟩) (by assumption) ?_
      rotate_left
      · intro v hSw
        try dsimp only at hSw
        go_simp
        with_reducible rfl
      try simp only [Act.put, List.setIfInBounds_toArray, List.set_cons_zero, List.set_cons_succ]
      refine wpAnyH_take (i := 8) (oi := { dst := some 48, op := Op.move (Operand.tmp 8), type := 42, pos := "wal.go:58", after := #[], guard := none }) (v := ?_) rfl (by kernel_rfl) (by kernel_rfl) (by kernel_rfl) (fun _ _ _ h => h) (Or.inl ⟨by rfl, ?_⟩) (by assumption) ?_
      rotate_left
      · intro v hSw
        try dsimp only at hSw
        go_simp
        with_reducible rfl
      try simp only [Act.put, List.setIfInBounds_toArray, List.set_cons_zero, List.set_cons_succ]
      refine wpAnyH_take (i := 9) (oi := { dst := some 49, op := Op.fieldAddr 39 (Operand.tmp 5) 1, type := 0, pos := "wal.go:58", after := #[], guard := none }) (v := ?_) rfl (by kernel_rfl) (by kernel_rfl) (by kernel_rfl) (fun _ _ _ h => h) (Or.inl ⟨by rfl, ?_⟩) (by assumption) ?_
      rotate_left
      · intro v hSw
        try dsimp only at hSw
        go_simp
        with_reducible rfl
      try simp only [Act.put, List.setIfInBounds_toArray, List.set_cons_zero, List.set_cons_succ]
      refine wpAnyH_take (i := 10) (oi := { dst := some 50, op := Op.load 37 (Operand.tmp 49), type := 37, pos := "wal.go:58", after := #[{ on := 9, ground := Ground.data }], guard := none }) (v := ?_) rfl (by kernel_rfl) (by kernel_rfl) (by kernel_rfl) (fun _ _ _ h => h) (Or.inl ⟨by rfl, ?_⟩) (by assumption) ?_
      rotate_left
      · intro v hSw
        try dsimp only at hSw
        go_simp
        with_reducible rfl
      try simp only [Act.put, List.setIfInBounds_toArray, List.set_cons_zero, List.set_cons_succ]
      refine wpAnyH_ready (rs := [5]) (by kernel_rfl) (by simp) ?_
      refine AllReadyH.cons (o := { dst := some 45, op := Op.call { callee := Callee.value (Operand.func 16), args := #[Operand.tmp 42, Operand.tmp 44], argTypes := #[42, 37] }, type := 37, pos := "wal.go:58", after := #[{ on := 2, ground := Ground.data }, { on := 4, ground := Ground.data }], guard := none }) rfl (fun K hK => ?_) AllReadyH.nil
      go_simp
      refine (behind_any (F4.out.kp (Kp.refl (fun _ => False) w4).drew (fun e => e)) (fun q s hs => by have h1 := sheetF_q hs; rw [← h1.1]; exact (takeS_lt h1.2).1) h.f HOK.out.f_).mono ?_
      rintro e w5 ⟨r, rfl, hr, hk⟩
      have B5 := Lib.hid ((B4.out.drew).kp hk (fun e => e))
      have K5 := Lib.hid (K4.out.drew.trans hk)
      have F5 := Lib.hid (F4.out.kp ((Kp.refl (fun _ => False) w4).drew.trans hk) (fun e => e))
      have HRN := Lib.hid (hr.one (nextF_is d.nowAt h.n h.f hn0))
      clear hr hk
      go_wp2_with fail
      refine hK.out _ _ (⟨(B5.out.cell 0), (B5.out.cell 1), (B5.out.cell 2), (B5.out.cell 3), (B5.out.cell 4)⟩) (fun hHeld2 => ?_)
      clear hK K
      try simp only [Act.put, List.setIfInBounds_toArray, List.set_cons_zero, List.set_cons_succ]
      refine wpAnyH_take (i := 6) (oi := { dst := some 46, op := Op.build 47 #[(0, Operand.tmp 40), (1, Operand.tmp 41), (2, Operand.tmp 45)], type := 47, pos := "wal.go:58", after := #[{ on := 0, ground := Ground.data }, { on := 1, ground := Ground.data }, { on := 5, ground := Ground.data }], guard := none }) (v := ?_) rfl (by kernel_rfl) (by kernel_rfl) (by kernel_rfl) (fun _ _ _ h => h) (Or.inl ⟨by rfl, ?_⟩) (by assumption) ?_
      rotate_left
      · intro v hSw
        try dsimp only at hSw
        go_simp
        with_reducible rfl
      try simp only [Act.put, List.setIfInBounds_toArray, List.set_cons_zero, List.set_cons_succ]
      refine wpAnyH_ready (rs := [7, 11]) (by kernel_rfl) (by simp) ?_
      refine AllReadyH.cons (o := { dst := some 47, op := Op.box 47 (Operand.tmp 46), type := 23, pos := "wal.go:58", after := #[{ on := 6, ground := Ground.data }], guard := none }) rfl (fun K hK => ?_) (AllReadyH.cons (o := { dst := some 51, op := Op.call { callee := Callee.value (Operand.func 17), args := #[Operand.tmp 48, Operand.tmp 50], argTypes := #[42, 37] }, type := 24, pos := "wal.go:58", after := #[{ on := 8, ground := Ground.data }, { on := 10, ground := Ground.data }, { on := 5, ground := Ground.chain }], guard := none }) rfl (fun K hK => ?_) AllReadyH.nil)
      · go_simp
        have B6 := Lib.hid (B5.out.alloc (.cells #[.pointer (some ⟨b, 0, none⟩), .int .u64 h.g, .int .u64 h.f, .int .i64 h.n, .string ⟨h.note.toArray⟩, .int .i64 a, .int .u64 r, .int .i64 0, .bool false] 47))
        have K6 := Lib.hid (K5.out.alloc (.cells #[.pointer (some ⟨b, 0, none⟩), .int .u64 h.g, .int .u64 h.f, .int .i64 h.n, .string ⟨h.note.toArray⟩, .int .i64 a, .int .u64 r, .int .i64 0, .bool false] 47))
        have G6 := Lib.hid (Box.new w5 47 #[.pointer (some ⟨b, 0, none⟩), .int .u64 h.g, .int .u64 h.f, .int .i64 h.n, .string ⟨h.note.toArray⟩, .int .i64 a, .int .u64 r, .int .i64 0, .bool false])
        have F6 := Lib.hid (F5.out.kp ((Kp.refl (fun _ => False) w5).alloc (.cells #[.pointer (some ⟨b, 0, none⟩), .int .u64 h.g, .int .u64 h.f, .int .i64 h.n, .string ⟨h.note.toArray⟩, .int .i64 a, .int .u64 r, .int .i64 0, .bool false] 47)) (fun e => e))
        have hlt := G6.out.lt
        have hgg := K5.out.size
        generalize w5.alloc (.cells #[.pointer (some ⟨b, 0, none⟩), .int .u64 h.g, .int .u64 h.f, .int .i64 h.n, .string ⟨h.note.toArray⟩, .int .i64 a, .int .u64 r, .int .i64 0, .bool false] 47) = w6 at *
        generalize w5.heap.size = g at *
        refine hK.out _ _ (⟨(B6.out.cell 0), (B6.out.cell 1), (B6.out.cell 2), (B6.out.cell 3), (B6.out.cell 4)⟩) (fun hHeld3 => ?_)
        clear hK K
        try simp only [Act.put, List.setIfInBounds_toArray, List.set_cons_zero, List.set_cons_succ]
        refine wpAnyH_ready (rs := [11]) (by kernel_rfl) (by simp) ?_
        refine AllReadyH.cons (o := { dst := some 51, op := Op.call { callee := Callee.value (Operand.func 17), args := #[Operand.tmp 48, Operand.tmp 50], argTypes := #[42, 37] }, type := 24, pos := "wal.go:58", after := #[{ on := 8, ground := Ground.data }, { on := 10, ground := Ground.data }, { on := 5, ground := Ground.chain }], guard := none }) rfl (fun K hK => ?_) AllReadyH.nil
        go_simp
        refine (texts_any F6.out hn0 HOK.out.hi h.f HFB.out).mono ?_
        rintro e w7 ⟨v, rfl, hown, hk⟩
        obtain ⟨A, c, rfl⟩ := own_shape3 hown
        have B7 := Lib.hid (B6.out.kp hk (fun e => e))
        have K7 := Lib.hid (K6.out.trans hk)
        have R7 := Lib.hid (own_base' hown K6.out.size)
        have G7 := Lib.hid (G6.out.kp hk (fun e => e))
        clear hown hk
        go_wp2_with fail
        refine hK.out _ _ (⟨(B7.out.cell 0), (B7.out.cell 1), (B7.out.cell 2), (B7.out.cell 3), (B7.out.cell 4)⟩) (fun hHeld4 => ?_)
        clear hK K
        try simp only [Act.put, List.setIfInBounds_toArray, List.set_cons_zero, List.set_cons_succ]
        refine wpAnyH_take (i := 12) (oi := { dst := some 2, op := Op.assign (Operand.tmp 47), type := 23, pos := "wal.go:58", after := #[{ on := 7, ground := Ground.data }, { on := 11, ground := Ground.chain }, { on := 0, ground := Ground.phase }, { on := 1, ground := Ground.phase }, { on := 2, ground := Ground.phase }, { on := 3, ground := Ground.phase }, { on := 4, ground := Ground.phase }, { on := 5, ground := Ground.phase }, { on := 6, ground := Ground.phase }, { on := 7, ground := Ground.phase }, { on := 8, ground := Ground.textOnly Departure.lateStores }, { on := 9, ground := Ground.textOnly Departure.lateStores }, { on := 10, ground := Ground.textOnly Departure.lateStores }, { on := 11, ground := Ground.textOnly Departure.lateStoresUnsure }], guard := none }) (v := ?_) rfl (by kernel_rfl) (by kernel_rfl) (by kernel_rfl) (fun _ _ _ h => h) (Or.inl ⟨by rfl, ?_⟩) (by assumption) ?_
        rotate_left
        · intro v hSw
          try dsimp only at hSw
          go_simp
          with_reducible rfl
        try simp only [Act.put, List.setIfInBounds_toArray, List.set_cons_zero, List.set_cons_succ]
        refine wpAnyH_take (i := 13) (oi := { dst := some 3, op := Op.assign (Operand.tmp 51), type := 24, pos := "wal.go:58", after := #[{ on := 11, ground := Ground.data }, { on := 12, ground := Ground.chain }, { on := 0, ground := Ground.phase }, { on := 1, ground := Ground.phase }, { on := 2, ground := Ground.phase }, { on := 3, ground := Ground.phase }, { on := 4, ground := Ground.phase }, { on := 5, ground := Ground.phase }, { on := 6, ground := Ground.phase }, { on := 7, ground := Ground.phase }, { on := 8, ground := Ground.phase }, { on := 9, ground := Ground.phase }, { on := 10, ground := Ground.phase }, { on := 11, ground := Ground.phase }, { on := 12, ground := Ground.phase }], guard := none }) (v := ?_) rfl (by kernel_rfl) (by kernel_rfl) (by kernel_rfl) (fun _ _ _ h => h) (Or.inl ⟨by rfl, ?_⟩) (by assumption) ?_
        rotate_left
        · intro v hSw
          try dsimp only at hSw
          go_simp
          with_reducible rfl
        try simp only [Act.put, List.setIfInBounds_toArray, List.set_cons_zero, List.set_cons_succ]
        refine wpAnyH_take (i := 14) (oi := { dst := some 4, op := Op.assign (Operand.const (Value.int IntKind.i64 0)), type := 25, pos := "wal.go:58", after := #[{ on := 13, ground := Ground.chain }, { on := 0, ground := Ground.phase }, { on := 1, ground := Ground.phase }, { on := 2, ground := Ground.phase }, { on := 3, ground := Ground.phase }, { on := 4, ground := Ground.phase }, { on := 5, ground := Ground.phase }, { on := 6, ground := Ground.phase }, { on := 7, ground := Ground.phase }, { on := 8, ground := Ground.phase }, { on := 9, ground := Ground.phase }, { on := 10, ground := Ground.phase }, { on := 11, ground := Ground.phase }, { on := 12, ground := Ground.phase }, { on := 13, ground := Ground.phase }], guard := none }) (v := ?_) rfl (by kernel_rfl) (by kernel_rfl) (by kernel_rfl) (fun _ _ _ h => h) (Or.inl ⟨by rfl, ?_⟩) (by assumption) ?_
        rotate_left
        · intro v hSw
          try dsimp only at hSw
          go_simp
          with_reducible rfl
        try simp only [Act.put, List.setIfInBounds_toArray, List.set_cons_zero, List.set_cons_succ]
        refine wpAnyH_done (by kernel_rfl) ?_ _
        go_wp2_with fail
        refine bodyPost_ret (v := .tuple #[.pointer (some ⟨g, 0, none⟩), .slice A (textsF d.nowAt h.n h.f).length c, .int .i64 0]) (by simp [results, Tryd.results5, go_sem]) rfl ?_
        rw [HX.out]
        refine ⟨g, .slice A (textsF d.nowAt h.n h.f).length c, rfl, ?_, R7.out, hgg, K7.out⟩
        have := G7.out
        rw [HRN.out] at this
        exact this
      · go_simp
        refine (texts_any F5.out hn0 HOK.out.hi h.f HFB.out).mono ?_
        rintro e w6 ⟨v, rfl, hown, hk⟩
        obtain ⟨A, c, rfl⟩ := own_shape3 hown
        have B6 := Lib.hid (B5.out.kp hk (fun e => e))
        have K6 := Lib.hid (K5.out.trans hk)
        have R6 := Lib.hid (own_base' hown K5.out.size)
        clear hown hk
        go_wp2_with fail
        refine hK.out _ _ (⟨(B6.out.cell 0), (B6.out.cell 1), (B6.out.cell 2), (B6.out.cell 3), (B6.out.cell 4)⟩) (fun hHeld5 => ?_)
        clear hK K
        try simp only [Act.put, List.setIfInBounds_toArray, List.set_cons_zero, List.set_cons_succ]
        refine wpAnyH_ready (rs := [7]) (by kernel_rfl) (by simp) ?_
        refine AllReadyH.cons (o := { dst := some 47, op := Op.box 47 (Operand.tmp 46), type := 23, pos := "wal.go:58", after := #[{ on := 6, ground := Ground.data }], guard := none }) rfl (fun K hK => ?_) AllReadyH.nil
        go_simp
        have B7 := Lib.hid (B6.out.alloc (.cells #[.pointer (some ⟨b, 0, none⟩), .int .u64 h.g, .int .u64 h.f, .int .i64 h.n, .string ⟨h.note.toArray⟩, .int .i64 a, .int .u64 r, .int .i64 0, .bool false] 47))
        have K7 := Lib.hid (K6.out.alloc (.cells #[.pointer (some ⟨b, 0, none⟩), .int .u64 h.g, .int .u64 h.f, .int .i64 h.n, .string ⟨h.note.toArray⟩, .int .i64 a, .int .u64 r, .int .i64 0, .bool false] 47))
        have G7 := Lib.hid (Box.new w6 47 #[.pointer (some ⟨b, 0, none⟩), .int .u64 h.g, .int .u64 h.f, .int .i64 h.n, .string ⟨h.note.toArray⟩, .int .i64 a, .int .u64 r, .int .i64 0, .bool false])
        have R7 := Lib.hid (R6.out.alloc (.cells #[.pointer (some ⟨b, 0, none⟩), .int .u64 h.g, .int .u64 h.f, .int .i64 h.n, .string ⟨h.note.toArray⟩, .int .i64 a, .int .u64 r, .int .i64 0, .bool false] 47))
        have hgg := K6.out.size
        generalize w6.alloc (.cells #[.pointer (some ⟨b, 0, none⟩), .int .u64 h.g, .int .u64 h.f, .int .i64 h.n, .string ⟨h.note.toArray⟩, .int .i64 a, .int .u64 r, .int .i64 0, .bool false] 47) = w7 at *
        generalize w6.heap.size = g at *
        refine hK.out _ _ (⟨(B7.out.cell 0), (B7.out.cell 1), (B7.out.cell 2), (B7.out.cell 3), (B7.out.cell 4)⟩) (fun hHeld6 => ?_)
        clear hK K
        try simp only [Act.put, List.setIfInBounds_toArray, List.set_cons_zero, List.set_cons_succ]
        refine wpAnyH_take (i := 12) (oi := { dst := some 2, op := Op.assign (Operand.tmp 47), type := 23, pos := "wal.go:58", after := #[{ on := 7, ground := Ground.data }, { on := 11, ground := Ground.chain }, { on := 0, ground := Ground.phase }, { on := 1, ground := Ground.phase }, { on := 2, ground := Ground.phase }, { on := 3, ground := Ground.phase }, { on := 4, ground := Ground.phase }, { on := 5, ground := Ground.phase }, { on := 6, ground := Ground.phase }, { on := 7, ground := Ground.phase }, { on := 8, ground := Ground.textOnly Departure.lateStores }, { on := 9, ground := Ground.textOnly Departure.lateStores }, { on := 10, ground := Ground.textOnly Departure.lateStores }, { on := 11, ground := Ground.textOnly Departure.lateStoresUnsure }], guard := none }) (v := ?_) rfl (by kernel_rfl) (by kernel_rfl) (by kernel_rfl) (fun _ _ _ h => h) (Or.inl ⟨by rfl, ?_⟩) (by assumption) ?_
        rotate_left
        · intro v hSw
          try dsimp only at hSw
          go_simp
          with_reducible rfl
        try simp only [Act.put, List.setIfInBounds_toArray, List.set_cons_zero, List.set_cons_succ]
        refine wpAnyH_take (i := 13) (oi := { dst := some 3, op := Op.assign (Operand.tmp 51), type := 24, pos := "wal.go:58", after := #[{ on := 11, ground := Ground.data }, { on := 12, ground := Ground.chain }, { on := 0, ground := Ground.phase }, { on := 1, ground := Ground.phase }, { on := 2, ground := Ground.phase }, { on := 3, ground := Ground.phase }, { on := 4, ground := Ground.phase }, { on := 5, ground := Ground.phase }, { on := 6, ground := Ground.phase }, { on := 7, ground := Ground.phase }, { on := 8, ground := Ground.phase }, { on := 9, ground := Ground.phase }, { on := 10, ground := Ground.phase }, { on := 11, ground := Ground.phase }, { on := 12, ground := Ground.phase }], guard := none }) (v := ?_) rfl (by kernel_rfl) (by kernel_rfl) (by kernel_rfl) (fun _ _ _ h => h) (Or.inl ⟨by rfl, ?_⟩) (by assumption) ?_
        rotate_left
        · intro v hSw
          try dsimp only at hSw
          go_simp
          with_reducible rfl
        try simp only [Act.put, List.setIfInBounds_toArray, List.set_cons_zero, List.set_cons_succ]
        refine wpAnyH_take (i := 14) (oi := { dst := some 4, op := Op.assign (Operand.const (Value.int IntKind.i64 0)), type := 25, pos := "wal.go:58", after := #[{ on := 13, ground := Ground.chain }, { on := 0, ground := Ground.phase }, { on := 1, ground := Ground.phase }, { on := 2, ground := Ground.phase }, { on := 3, ground := Ground.phase }, { on := 4, ground := Ground.phase }, { on := 5, ground := Ground.phase }, { on := 6, ground := Ground.phase }, { on := 7, ground := Ground.phase }, { on := 8, ground := Ground.phase }, { on := 9, ground := Ground.phase }, { on := 10, ground := Ground.phase }, { on := 11, ground := Ground.phase }, { on := 12, ground := Ground.phase }, { on := 13, ground := Ground.phase }], guard := none }) (v := ?_) rfl (by kernel_rfl) (by kernel_rfl) (by kernel_rfl) (fun _ _ _ h => h) (Or.inl ⟨by rfl, ?_⟩) (by assumption) ?_
        rotate_left
        · intro v hSw
          try dsimp only at hSw
          go_simp
          with_reducible rfl
        try simp only [Act.put, List.setIfInBounds_toArray, List.set_cons_zero, List.set_cons_succ]
        refine wpAnyH_done (by kernel_rfl) ?_ _
        go_wp2_with fail
        refine bodyPost_ret (v := .tuple #[.pointer (some ⟨g, 0, none⟩), .slice A (textsF d.nowAt h.n h.f).length c, .int .i64 0]) (by simp [results, Tryd.results5, go_sem]) rfl ?_
        rw [HX.out]
        refine ⟨g, .slice A (textsF d.nowAt h.n h.f).length c, rfl, ?_, R7.out, hgg, K7.out⟩
        have := G7.out
        rw [HRN.out] at this
        exact this
    · obtain ⟨z, hz⟩ : ∃ z : Int, 2 + (h.n : Int) = z := ⟨_, rfl⟩
      have hd1 : decide ((d.on.length : Int) < z) = true := by simp; omega
      have hwn : IntKind.i64.wrap (2 + (h.n : Int)) = z := by rw [IntWalk.i64_in _ (by omega)]; exact hz
      have HX := Lib.hid (show d.openS = (none, 12) by rw [hfm]; dsimp only; rw [if_neg hlen])
      clear hfm hcv hpw hfb hh hok hz
      go_enter Tryd.func5, Tryd.ntmps5
      go_wp2_with fail
      refine (counting_any DD.out HT.out).mono ?_
      rintro e w1 ⟨rfl, hk⟩
      rw [HCV.out]
      have B2 := Lib.hid (Box.new w1 39 #[.int .u64 h.g, .int .u64 h.f, .int .i64 h.n, .string ⟨h.note.toArray⟩, .int .i64 a])
      have K2 := Lib.hid (hk.alloc (.cells #[.int .u64 h.g, .int .u64 h.f, .int .i64 h.n, .string ⟨h.note.toArray⟩, .int .i64 a] 39))
      have hg5 := hk.size
      clear hk
      go_upto_region 4 with fail
      generalize w1.alloc (.cells #[.int .u64 h.g, .int .u64 h.f, .int .i64 h.n, .string ⟨h.note.toArray⟩, .int .i64 a] 39) = w2 at *
      generalize w1.heap.size = g5 at *
      have D2 := Lib.hid (DD.out.still K2.out)
      go_upto_region 6 with fail
      refine wp_region_held_drew (S := fun v => v.cell? ⟨g5, 0, none⟩ = some (.int .u64 h.g) ∧ v.cell? ⟨g5, 1, none⟩ = some (.int .u64 h.f) ∧ v.cell? ⟨g5, 2, none⟩ = some (.int .i64 h.n) ∧ v.cell? ⟨g5, 3, none⟩ = some (.string ⟨h.note.toArray⟩) ∧ v.cell? ⟨g5, 4, none⟩ = some (.int .i64 a)) (by kernel_rfl) (⟨(B2.out.cell 0), (B2.out.cell 1), (B2.out.cell 2), (B2.out.cell 3), (B2.out.cell 4)⟩) (fun hHeld => ?_)
      refine wpAnyH_take (i := 0) (oi := { dst := some 20, op := Op.move (Operand.tmp 6), type := 4, pos := "wal.go:51", after := #[], guard := none }) (v := ?_) rfl (by kernel_rfl) (by kernel_rfl) (by kernel_rfl) (fun _ _ _ h => h) (Or.inl ⟨by rfl, ?_⟩) (by assumption) ?_
      rotate_left
      · intro v hSw
        try dsimp only at hSw
        go_simp
        with_reducible rfl
      try simp only [Act.put, List.setIfInBounds_toArray, List.set_cons_zero, List.set_cons_succ]
      refine wpAnyH_take (i := 1) (oi := { dst := some 21, op := Op.unOp UnOp.not 4 (Operand.tmp 20), type := 4, pos := "wal.go:51", after := #[{ on := 0, ground := Ground.data }], guard := none }) (v := ?_) rfl (by kernel_rfl) (by kernel_rfl) (by kernel_rfl) (fun _ _ _ h => h) (Or.inl ⟨by rfl, ?_⟩) (by assumption) ?_
      rotate_left
      · intro v hSw
        try dsimp only at hSw
        go_simp
        with_reducible rfl
      try simp only [Act.put, List.setIfInBounds_toArray, List.set_cons_zero, List.set_cons_succ]
      refine wpAnyH_take (i := 2) (oi := { dst := some 22, op := Op.move (Operand.tmp 21), type := 4, pos := "wal.go:51", after := #[{ on := 1, ground := Ground.data }], guard := none }) (v := ?_) rfl (by kernel_rfl) (by kernel_rfl) (by kernel_rfl) (fun _ _ _ h => h) (Or.inl ⟨by rfl, ?_⟩) (by assumption) ?_
      rotate_left
      · intro v hSw
        try dsimp only at hSw
        go_simp
        with_reducible rfl
      try simp only [Act.put, List.setIfInBounds_toArray, List.set_cons_zero, List.set_cons_succ]
      refine wpAnyH_take (i := 3) (oi := { dst := some 23, op := Op.fieldAddr 39 (Operand.tmp 5) 2, type := 0, pos := "wal.go:51", after := #[{ on := 2, ground := Ground.guard }], guard := some (2, false) }) (v := ?_) rfl (by kernel_rfl) (by kernel_rfl) (by kernel_rfl) (fun _ _ _ h => h) (Or.inl ⟨by rfl, ?_⟩) (by assumption) ?_
      rotate_left
      · intro v hSw
        try dsimp only at hSw
        go_simp
        with_reducible rfl
      try simp only [Act.put, List.setIfInBounds_toArray, List.set_cons_zero, List.set_cons_succ]
      refine wpAnyH_take (i := 4) (oi := { dst := some 24, op := Op.load 3 (Operand.tmp 23), type := 3, pos := "wal.go:51", after := #[{ on := 3, ground := Ground.data }, { on := 2, ground := Ground.guard }], guard := some (2, false) }) (v := ?_) rfl (by kernel_rfl) (by kernel_rfl) (by kernel_rfl) (fun _ _ _ h => h) (Or.inl ⟨by rfl, ?_⟩) (by assumption) ?_
      rotate_left
      · intro v hSw
        try dsimp only at hSw
        go_simp
        with_reducible rfl
      try simp only [Act.put, List.setIfInBounds_toArray, List.set_cons_zero, List.set_cons_succ]
      refine wpAnyH_take (i := 5) (oi := { dst := some 25, op := Op.binOp BinOp.add 3 (Operand.const (Value.int IntKind.i64 2)) (Operand.tmp 24) 3, type := 3, pos := "wal.go:51", after := #[{ on := 4, ground := Ground.data }, { on := 2, ground := Ground.guard }], guard := some (2, false) }) (v := ?_) rfl (by kernel_rfl) (by kernel_rfl) (by kernel_rfl) (fun _ _ _ h => h) (Or.inl ⟨by rfl, ?_⟩) (by assumption) ?_
      rotate_left
      · intro v hSw
        try dsimp only at hSw
        go_simp
        with_reducible rfl
      try simp only [Act.put, List.setIfInBounds_toArray, List.set_cons_zero, List.set_cons_succ]
      refine wpAnyH_take (i := 6) (oi := { dst := some 26, op := Op.move (Operand.tmp 0), type := 34, pos := "wal.go:51", after := #[{ on := 2, ground := Ground.guard }], guard := some (2, false) }) (v := ?_) rfl (by kernel_rfl) (by kernel_rfl) (by kernel_rfl) (fun _ _ _ h => h) (Or.inl ⟨by rfl, ?_⟩) (by assumption) ?_
      rotate_left
      · intro v hSw
        try dsimp only at hSw
        go_simp
        with_reducible rfl
      try simp only [Act.put, List.setIfInBounds_toArray, List.set_cons_zero, List.set_cons_succ]
      refine wpAnyH_ready (rs := [7]) (by kernel_rfl) (by simp) ?_
      refine AllReadyH.cons (o := { dst := some 27, op := Op.call { callee := Callee.value (Operand.func 14), args := #[Operand.tmp 26], argTypes := #[34] }, type := 3, pos := "wal.go:51", after := #[{ on := 6, ground := Ground.data }, { on := 2, ground := Ground.chain }, { on := 2, ground := Ground.guard }], guard := some (2, false) }) rfl (fun K hK => ?_) AllReadyH.nil
      go_simp
      refine (len_any (D2.out.still (Kp.refl (fun _ => False) w2).drew)).mono ?_
      rintro e w3 ⟨rfl, rfl⟩
      go_wp2_with fail
      refine hK.out _ _ (⟨(B2.out.drew.cell 0), (B2.out.drew.cell 1), (B2.out.drew.cell 2), (B2.out.drew.cell 3), (B2.out.drew.cell 4)⟩) (fun hHeld7 => ?_)
      clear hK K
      try simp only [Act.put, List.setIfInBounds_toArray, List.set_cons_zero, List.set_cons_succ]
      refine wpAnyH_take (i := 8) (oi := { dst := some 28, op := Op.binOp BinOp.gtr 3 (Operand.tmp 25) (Operand.tmp 27) 3, type := 4, pos := "wal.go:51", after := #[{ on := 5, ground := Ground.data }, { on := 7, ground := Ground.data }, { on := 2, ground := Ground.guard }], guard := some (2, false) }) (v := ?_) rfl (by kernel_rfl) (by kernel_rfl) (by kernel_rfl) (fun _ _ _ h => h) (Or.inl ⟨by rfl, ?_⟩) (by assumption) ?_
      rotate_left
      · intro v hSw
        try dsimp only at hSw
        go_simp
        with_reducible rfl
      try simp only [Act.put, List.setIfInBounds_toArray, List.set_cons_zero, List.set_cons_succ]
      refine wpAnyH_take (i := 9) (oi := { dst := some 29, op := Op.pick (Operand.tmp 22) (Operand.const (Value.bool true)) (Operand.tmp 28), type := 4, pos := "wal.go:51", after := #[{ on := 2, ground := Ground.data }, { on := 8, ground := Ground.data }], guard := none }) (v := ?_) rfl (by kernel_rfl) (by kernel_rfl) (by kernel_rfl) (fun _ _ _ h => h) (Or.inl ⟨by rfl, ?_⟩) (by assumption) ?_
      rotate_left
      · intro v hSw
        try dsimp only at hSw
        go_simp
        with_reducible rfl
      try simp only [Act.put, List.setIfInBounds_toArray, List.set_cons_zero, List.set_cons_succ]
      refine wpAnyH_done (by kernel_rfl) ?_ _
      go_wp2_with fail
      refine bodyPost_ret (v := .tuple #[.pointer none, .slice none 0 0, .int .i64 12]) (by simp [results, Tryd.results5, go_sem]) rfl ?_
      rw [HX.out]
      exact ⟨rfl, K2.out.drew⟩
end
set_option maxHeartbeats 400000 in
theorem open_nil (w : World) :
    Calls Tryd.prog 5 #[.pointer none] w fun e w' => e = .returned (.tuple #[.pointer none, .slice none 0 0, .int .i64 1]) ∧ w = w' := by
  go_enter Tryd.func5, Tryd.ntmps5
  go_wp2_with fail
  refine bodyPost_ret (v := .tuple #[.pointer none, .slice none 0 0, .int .i64 1]) (by simp [results, Tryd.results5, go_sem]) rfl ⟨rfl, rfl⟩
set_option maxHeartbeats 400000 in
theorem lnote_any {w : World} {g b : Nat} {l : Lm} (h : Box w g 47 (lcs b l)) :
    Calls Tryd.prog 7 #[.pointer (some ⟨g, 0, none⟩)] w fun e w' => e = .returned (.string ⟨l.h.note.toArray⟩) ∧ w = w' := by
  have c := h.cell 4
  simp [lcs] at c
  clear h
  go_enter Tryd.func7, Tryd.ntmps7
  go_wp2_with fail
  go_ret
  exact ⟨rfl, rfl⟩
set_option maxHeartbeats 400000 in
theorem lnote_nil (w : World) :
    Calls Tryd.prog 7 #[.pointer none] w fun e w' => e = .returned (.string ⟨#[]⟩) ∧ w = w' := by
  go_enter Tryd.func7, Tryd.ntmps7
  go_wp2_with fail
  go_ret
  exact ⟨rfl, rfl⟩
set_option maxHeartbeats 400000 in
theorem lsectors_any {w : World} {g b : Nat} {l : Lm} (h : Box w g 47 (lcs b l)) :
    Calls Tryd.prog 8 #[.pointer (some ⟨g, 0, none⟩)] w fun e w' => e = .returned (.int .i64 l.h.n) ∧ w = w' := by
  have c := h.cell 3
  simp [lcs] at c
  clear h
  go_enter Tryd.func8, Tryd.ntmps8
  go_wp2_with fail
  go_ret
  exact ⟨rfl, rfl⟩
set_option maxHeartbeats 400000 in
theorem lsectors_nil (w : World) :
    Calls Tryd.prog 8 #[.pointer none] w fun e w' => e = .returned (.int .i64 0) ∧ w = w' := by
  go_enter Tryd.func8, Tryd.ntmps8
  go_wp2_with fail
  go_ret
  exact ⟨rfl, rfl⟩
set_option maxHeartbeats 400000 in
theorem lleft_any {w : World} {g b : Nat} {l : Lm} (h : Box w g 47 (lcs b l)) :
    Calls Tryd.prog 9 #[.pointer (some ⟨g, 0, none⟩)] w fun e w' => e = .returned (.int .i64 l.left) ∧ w = w' := by
  have c := h.cell 7
  simp [lcs] at c
  clear h
  go_enter Tryd.func9, Tryd.ntmps9
  go_wp2_with fail
  go_ret
  exact ⟨rfl, rfl⟩
set_option maxHeartbeats 400000 in
theorem lleft_nil (w : World) :
    Calls Tryd.prog 9 #[.pointer none] w fun e w' => e = .returned (.int .i64 0) ∧ w = w' := by
  go_enter Tryd.func9, Tryd.ntmps9
  go_wp2_with fail
  go_ret
  exact ⟨rfl, rfl⟩
end Go.Proofs.YtfcljcikajaedaaDoor
