/- A packer that goes well, its calls, beside a block that stays. No condition. -/
import Derived.Test.YtcgfnfejacgaeaaDoorRcMath
import Derived.Test.YtcgfnfejacgaeaaDoorGen
import Derived.Test.YtcgfnfejacgaeaaDoorOCalls
import Derived.Test.YtcgfnfejacgaeaaDoorCrcSum
namespace Go.Proofs.YtcgfnfejacgaeaaDoor
open Go.RowKit

theorem putS0 (l s : List UInt8) : putS l 0 s = l ++ s := by simp [putS]
theorem pk_mk {F : Nat → Prop} {w : World} {b : Nat} {l : List UInt8} (h : Pkr F w b l 0) : Pk F w (.pointer (some ⟨b, 0, none⟩)) l 0 := ⟨fun e => absurd rfl e, .inr ⟨b, rfl, h⟩⟩
/-- Under way: the packer p has the bytes l; the block that was laid first stays. -/
structure Pu (w : World) (t : TypeId) (cs : Array Value) (v : World) (p : Value) (l : List UInt8) : Prop where
  pk : Pk (fun k => w.heap.size + 1 ≤ k) v p l 0
  box : Box v w.heap.size t cs
  kp : Kp (fun _ => False) w v
section
variable {w v v' : World} {t : TypeId} {cs : Array Value} {p : Value} {l l' : List UInt8}
theorem Pu.hF (h : Pu w t cs v p l) : ∀ k, v.heap.size ≤ k → w.heap.size + 1 ≤ k := fun k hk => by have := h.box.lt; omega
theorem Pu.call (h : Pu w t cs v p l) (hp : Pk (fun k => w.heap.size + 1 ≤ k) v' p l' 0) (hk : Kp (fun k => w.heap.size + 1 ≤ k) v v') : Pu w t cs v' p l' :=
  ⟨hp, h.box.kp hk (fun e => by omega), h.kp.trans_new hk fun _ e => .inl (by omega)⟩
theorem Pu.still (h : Pu w t cs v p l) (hk : Kp (fun _ => False) v v') : Pu w t cs v' p l := ⟨h.pk.still hk, h.box.kp hk (fun e => e), h.kp.trans hk⟩
theorem pu_new (hb : Box v w.heap.size t cs) (hk : Kp (fun _ => False) w v) :
    Calls Tryd.prog 24 #[] v fun e v' => ∃ p, e = .returned p ∧ Pu w t cs v' p [] :=
  (new_any (fun k => w.heap.size + 1 ≤ k) v hb.lt).mono fun _e _v' ⟨a, b, c⟩ => ⟨_, a, pk_mk b, hb.kp c (fun e => e), hk.trans c⟩
theorem Pu.put2 (h : Pu w t cs v p l) (n : Nat) (hn : n < 65536) (hlen : l.length ≤ 100000) :
    Calls Tryd.prog 26 #[p, .int .i64 2, .int .u64 n] v fun e v' => e = .returned p ∧ Pu w t cs v' p (l ++ beN 2 n) := by
  have := put_fine2 h.pk h.hF n hn (by omega)
  rw [putS0] at this
  exact this.mono fun e v' ⟨a, b, c⟩ => ⟨a, h.call b c⟩
theorem Pu.put4 (h : Pu w t cs v p l) (n : Nat) (hn : n < 4294967296) (hlen : l.length ≤ 100000) :
    Calls Tryd.prog 26 #[p, .int .i64 4, .int .u64 n] v fun e v' => e = .returned p ∧ Pu w t cs v' p (l ++ beN 4 n) := by
  have := put_fine4 h.pk h.hF n hn (by omega)
  rw [putS0] at this
  exact this.mono fun e v' ⟨a, b, c⟩ => ⟨a, h.call b c⟩
theorem Pu.hash (h : Pu w t cs v p l) (s : List UInt8) (hs : s.length = 32) (hlen : l.length ≤ 100000) :
    Calls Tryd.prog 25 #[p, .agg (bcs s).toArray] v fun e v' => e = .returned p ∧ Pu w t cs v' p (l ++ s) := by
  have := hash_any h.pk h.hF s hs (by omega)
  rw [putS0] at this
  exact this.mono fun e v' ⟨a, b, c⟩ => ⟨a, h.call b c⟩
theorem Pu.text (h : Pu w t cs v p l) (s : ByteArray) (hs : s.size ≤ 100000) (hlen : l.length ≤ 100000) :
    Calls Tryd.prog 27 #[p, .string s] v fun e v' => e = .returned p ∧ Pu w t cs v' p (l ++ byt s) := by
  have := text_any h.pk h.hF s (by omega)
  rw [putS0] at this
  exact this.mono fun e v' ⟨a, b, c⟩ => ⟨a, h.call b c⟩
theorem Pu.bytes (h : Pu w t cs v p l) (n : Nat) (hn : l.length = n) (hlen : n ≤ 100000) :
    Calls Tryd.prog 28 #[p] v fun e v' => ∃ A c, e = .returned (.tuple #[.slice A n c, .int .i64 0]) ∧ n ≤ c ∧ c ≤ maxLen ∧ Rd v' A l ∧ (∀ a, A = some a → v.heap.size ≤ a.block) ∧ Pu w t cs v' p l ∧ Kp (fun _ => False) v v' := by
  subst hn
  exact (bytes_any h.pk (by omega)).mono fun e v' ⟨A, c, a1, a2, a3, a4, a5, a6⟩ => ⟨A, c, a1, a2, a3, a4, a5, h.still a6, a6⟩
end
theorem Tbl.still {w w' : World} (h : Tbl w) (hk : Kp (fun _ => False) w w') : Tbl w' := h.kp hk (fun e => e)
end Go.Proofs.YtcgfnfejacgaeaaDoor
