/-
  Texts of the proof, merged by program: Frq.
-/
import Derived.Test.YtblbheilddafbaaGreatDoorZEqq
import Derived.Test.YtblbheilddafbaaGreatDoorZ19
import Derived.Test.YtblbheilddafbaaGreatDoorZSums
set_option linter.unusedVariables false
set_option linter.unusedSimpArgs false
namespace Go.Proofs.YtblbheilddafbaaGreatDoor
open Go Go.RowKit
/-- Block g holds these three cells of a fraction. -/
def H3 (W : World) (g : Nat) (x y z : Value) : Prop := W.heap[g]? = some (.cells #[x, y, z] 76 (0, 0))
theorem H3.new (W : World) (n : Nat) (x y z : Value) (h : W.heap.size = n) : H3 (W.alloc (.cells #[x, y, z] 76)) n x y z := heap_last W _ n h
theorem H3.below {W W' : World} {g : Nat} {x y z : Value} (h : H3 W g x y z) (hb : Below W.heap.size W W') : H3 W' g x y z := (hb.block g (Array.getElem?_eq_some_iff.1 h).1).trans h
/-- Block g holds these four cells of a reference's fraction. -/
def H4 (W : World) (g : Nat) (x y z u : Value) : Prop := W.heap[g]? = some (.cells #[x, y, z, u] 72 (0, 0))
theorem H4.new (W : World) (n : Nat) (x y z u : Value) (h : W.heap.size = n) : H4 (W.alloc (.cells #[x, y, z, u] 72)) n x y z u := heap_last W _ n h
theorem H4.below {W W' : World} {g : Nat} {x y z u : Value} (h : H4 W g x y z u) (hb : Below W.heap.size W W') : H4 W' g x y z u := (hb.block g (Array.getElem?_eq_some_iff.1 h).1).trans h
theorem small_1000 : smallB ((TP 1000 : Nat) : Int) = true := by decide +kernel
theorem decN_bound {n m : Nat} (h : (Dg.decN n).length ≤ m) : n ≤ TP m := by
  have h2 := Dg.valD_lt (Dg.decN_dig n)
  rw [Dg.decN_val] at h2
  exact Nat.le_of_lt (Nat.lt_of_lt_of_le h2 (Nat.pow_le_pow_right (by omega) h))
theorem small_0 : smallB 0 = true := small_le (m := 0) small_1000 (Nat.zero_le _)
theorem small_frac {p q : Int} (hq : 0 < q) (h : (decR p q).length ≤ 1000) : smR p q = true := by
  unfold decR at h
  by_cases h1 : q = 1
  · rw [if_pos h1] at h
    have hp := small_le small_1000 (dec_bound h)
    have e : (if q = 1 then 0 else q) = 0 := if_pos h1
    have h0 := small_0
    unfold smR
    rw [e, hp, h0]
    rfl
  · rw [if_neg h1, List.length_append, List.length_cons] at h
    have hp := small_le small_1000 (dec_bound (show (Dg.decZ p).length ≤ 1000 by omega))
    have hq2 := small_le small_1000 (decN_bound (show (Dg.decN q.toNat).length ≤ 1000 by omega))
    have e : (if q = 1 then 0 else q) = ((q.toNat : Nat) : Int) := by rw [if_neg h1]; omega
    unfold smR
    rw [e, hp, hq2]
    rfl
theorem fr_low {p q : Int} (h : Low p q) : frN p q = p ∧ frD p q = q := by
  obtain ⟨h1, h2⟩ := h
  unfold frN frD
  rw [if_neg (by omega), h2]
  refine ⟨by simp, ?_⟩
  rw [show ((1 : Nat) : Int) = 1 from rfl, Int.ediv_one]
  omega
theorem low_neg {p q : Int} (h : Low p q) : Low (-p) q := ⟨h.1, by have h2 := h.2; simpa [Int.gcd] using h2⟩
theorem frac_back {t : ByteArray} {l : List UInt8} (h : t.data.toList = l) : str l = .string t := by
  rw [← h]
  show Value.string ⟨t.data.toList.toArray⟩ = Value.string t
  rw [Array.toArray_toList]
end Go.Proofs.YtblbheilddafbaaGreatDoor
