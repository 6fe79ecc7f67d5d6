/-
  Texts of the proof, merged by program: Rin.
-/
import Derived.Test.YtblbheilddafbaaGreatDoorZSums
set_option linter.unusedVariables false
set_option linter.unusedSimpArgs false
namespace Go.Proofs.YtblbheilddafbaaGreatDoor
open Go Go.RowKit
theorem big_ring : smallB ((4 * (TP 900 * TP 900 * TP 900) : Nat) : Int) = true := by decide +kernel
/-- All that the law of the ring makes is small. -/
structure RingSm (a b c : Int) : Prop where
  ab : smallB (a + b).natAbs = true
  ba : smallB (b + a).natAbs = true
  abc : smallB (a + b + c).natAbs = true
  bc : smallB (b + c).natAbs = true
  cab : smallB (a + (b + c)).natAbs = true
  p : smallB (a * (b + c)).natAbs = true
  q : smallB (a * b).natAbs = true
  r : smallB (a * c).natAbs = true
  sum : smallB (a * b + a * c).natAbs = true
  qc : smallB (a * b * c).natAbs = true
  cr : smallB (b * (a * c)).natAbs = true
  d : smallB (a + b - b).natAbs = true
theorem TP_pos (n : Nat) : 1 ≤ TP n := Nat.pow_pos (by omega)
theorem sg_nonneg {a b : Int} (h : b ≤ a) : 0 ≤ Dg.sg a b := by
  unfold Dg.sg
  rw [if_neg (by omega)]
  split <;> omega
set_option maxHeartbeats 1000000 in
theorem ring_sm_of {a b c : Int} {B : Nat} (hB : 1 ≤ B) (hbig : smallB ((4 * (B * B * B) : Nat) : Int) = true) (ha : a.natAbs ≤ B) (hb : b.natAbs ≤ B) (hc : c.natAbs ≤ B) : RingSm a b c := by
  have h2 : B ≤ B * B := Nat.le_mul_of_pos_left _ hB
  have h3 : B * B ≤ B * B * B := Nat.le_mul_of_pos_right _ hB
  have f : ∀ n : Nat, n ≤ 4 * (B * B * B) → smallB n = true := fun n h => small_le hbig h
  have s1 : (b + c).natAbs ≤ 2 * B := by omega
  have m1 : (a * (b + c)).natAbs ≤ B * (2 * B) := by rw [Int.natAbs_mul]; exact Nat.mul_le_mul ha s1
  have m2 : (a * b).natAbs ≤ B * B := by rw [Int.natAbs_mul]; exact Nat.mul_le_mul ha hb
  have m3 : (a * c).natAbs ≤ B * B := by rw [Int.natAbs_mul]; exact Nat.mul_le_mul ha hc
  have m4 : (a * b * c).natAbs ≤ B * B * B := by rw [Int.natAbs_mul]; exact Nat.mul_le_mul m2 hc
  have m5 : (b * (a * c)).natAbs ≤ B * (B * B) := by rw [Int.natAbs_mul]; exact Nat.mul_le_mul hb m3
  have e1 : B * (2 * B) = 2 * (B * B) := Nat.mul_left_comm _ _ _
  have e2 : B * (B * B) = B * B * B := (Nat.mul_assoc _ _ _).symm
  rw [e1] at m1
  rw [e2] at m5
  generalize B * B * B = T at *
  generalize B * B = D at *
  have m6 : (a * b + a * c).natAbs ≤ D + D := Nat.le_trans (Int.natAbs_add_le _ _) (by omega)
  exact ⟨f _ (by omega), f _ (by omega), f _ (by omega), f _ (by omega), f _ (by omega), f _ (Nat.le_trans m1 (by omega)), f _ (Nat.le_trans m2 (by omega)), f _ (Nat.le_trans m3 (by omega)), f _ (Nat.le_trans m6 (by omega)), f _ (Nat.le_trans m4 (by omega)), f _ (Nat.le_trans m5 (by omega)), f _ (by omega)⟩
theorem ring_sm {a b c : Int} (ha : a.natAbs ≤ TP 900) (hb : b.natAbs ≤ TP 900) (hc : c.natAbs ≤ TP 900) : RingSm a b c := ring_sm_of (TP_pos 900) big_ring ha hb hc
theorem Dg.sg_eq' {a b : Int} (h : a = b) : Dg.sg a b = 0 := by subst h; exact Dg.sg_eq _
end Go.Proofs.YtblbheilddafbaaGreatDoor
