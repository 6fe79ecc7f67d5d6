/-
  Texts of the proof, merged by program: Fld Fle.
-/
import Derived.Test.YtblbheilddafbaaGreatDoorZFrq
set_option linter.unusedVariables false
set_option linter.unusedSimpArgs false
/-! Arithmetic of fractions in lowest terms. -/
namespace Go.Proofs.YtblbheilddafbaaGreatDoor
open Go Go.RowKit
theorem fr_cross {X Y : Int} (hY : Y ≠ 0) : frN X Y * Y = X * frD X Y := by
  obtain ⟨G, zn, yn, hG, _, e1, e2, h0, e3, e4⟩ := fr_parts (z := X) hY
  rw [e3, e4, e1, e2]
  split <;> simp only [Int.mul_comm, Int.mul_left_comm, Int.neg_mul, Int.mul_neg]
theorem low_unique {p q r t : Int} (h1 : Low p q) (h2 : Low r t) (h : p * t = r * q) : p = r ∧ q = t := by
  obtain ⟨q0, g1⟩ := h1
  obtain ⟨t0, g2⟩ := h2
  have hn : p.natAbs * t.natAbs = r.natAbs * q.natAbs := by rw [← Int.natAbs_mul, ← Int.natAbs_mul, h]
  have c1 : Nat.Coprime q.natAbs p.natAbs := by unfold Nat.Coprime; rw [Nat.gcd_comm]; exact g1
  have c2 : Nat.Coprime t.natAbs r.natAbs := by unfold Nat.Coprime; rw [Nat.gcd_comm]; exact g2
  have d1 : q.natAbs ∣ t.natAbs := c1.dvd_of_dvd_mul_left (by rw [hn]; exact Nat.dvd_mul_left _ _)
  have d2 : t.natAbs ∣ q.natAbs := c2.dvd_of_dvd_mul_left (by rw [← hn]; exact Nat.dvd_mul_left _ _)
  have e := Nat.dvd_antisymm d1 d2
  have e2 : q = t := by omega
  subst e2
  exact ⟨Int.eq_of_mul_eq_mul_right (by omega) h, rfl⟩
theorem fr_eq {X Y X' Y' : Int} (hY : Y ≠ 0) (hY' : Y' ≠ 0) (h : X * Y' = X' * Y) : frN X Y = frN X' Y' ∧ frD X Y = frD X' Y' := by
  refine low_unique (low_fr hY) (low_fr hY') ?_
  have h1 := fr_cross (X := X) hY
  have h2 := fr_cross (X := X') hY'
  generalize frN X Y = n at *
  generalize frD X Y = d at *
  generalize frN X' Y' = n' at *
  generalize frD X' Y' = d' at *
  apply Int.eq_of_mul_eq_mul_right (Int.mul_ne_zero hY hY')
  calc n * d' * (Y * Y') = n * Y * (d' * Y') := by simp only [Int.mul_comm, Int.mul_left_comm]
    _ = X * Y' * (d * d') := by rw [h1]; simp only [Int.mul_comm, Int.mul_left_comm]
    _ = n' * Y' * (d * Y) := by rw [h, h2]; simp only [Int.mul_comm, Int.mul_left_comm]
    _ = n' * d * (Y * Y') := by simp only [Int.mul_comm, Int.mul_left_comm]
/-- At most n digits. -/
def Sz (n : Nat) (x : Int) : Prop := x.natAbs ≤ TP n
theorem tp_add (a b : Nat) : TP (a + b) = TP a * TP b := Nat.pow_add 10 a b
theorem tp_mono {a b : Nat} (h : a ≤ b) : TP a ≤ TP b := Nat.pow_le_pow_right (by omega) h
theorem Sz.mono {a b : Nat} {x : Int} (h : Sz a x) (hab : a ≤ b) : Sz b x := Nat.le_trans h (tp_mono hab)
theorem Sz.mul {a b : Nat} {x y : Int} (h : Sz a x) (h' : Sz b y) : Sz (a + b) (x * y) := by
  unfold Sz
  rw [Int.natAbs_mul, tp_add]
  exact Nat.mul_le_mul h h'
theorem Sz.add {a : Nat} {x y : Int} (h : Sz a x) (h' : Sz a y) : Sz (a + 1) (x + y) := by
  unfold Sz at *
  rw [tp_add, show TP 1 = 10 from rfl]
  have := Int.natAbs_add_le x y
  omega
theorem Sz.neg {a : Nat} {x : Int} (h : Sz a x) : Sz a (-x) := by unfold Sz at *; rw [Int.natAbs_neg]; exact h
theorem Sz.sub {a : Nat} {x y : Int} (h : Sz a x) (h' : Sz a y) : Sz (a + 1) (x - y) := by rw [Int.sub_eq_add_neg]; exact h.add h'.neg
theorem Sz.fr {a : Nat} {X Y : Int} (hY : Y ≠ 0) (h1 : Sz a X) (h2 : Sz a Y) : Sz a (frN X Y) ∧ Sz a (frD X Y) := by
  obtain ⟨G, zn, yn, hG, _, e1, e2, h0, e3, e4⟩ := fr_parts (z := X) hY
  unfold Sz at *
  have k1 : zn.natAbs ≤ X.natAbs := by rw [e1, Int.natAbs_mul]; exact Nat.le_mul_of_pos_right _ (by omega)
  have k2 : yn.natAbs ≤ Y.natAbs := by rw [e2, Int.natAbs_mul]; exact Nat.le_mul_of_pos_right _ (by omega)
  rw [e3, e4]
  split <;> (constructor <;> omega)
theorem small_3000 : smallB ((TP 3000 : Nat) : Int) = true := by decide +kernel
theorem smR_sz {a : Nat} {p q : Int} (h1 : Sz a p) (h2 : Sz a q) (hq : 0 < q) (ha : a ≤ 3000) : smR p q = true := by
  have hp := small_le small_3000 (h1.mono ha)
  have hq2 := small_le small_3000 (h2.mono ha)
  unfold smR
  rw [hp]
  by_cases e : q = 1
  · rw [if_pos e, small_0]; rfl
  · rw [if_neg e, show q = ((q.natAbs : Nat) : Int) by omega, hq2]; rfl
theorem smR_fr {a : Nat} {X Y : Int} (hY : Y ≠ 0) (h1 : Sz a X) (h2 : Sz a Y) (ha : a ≤ 3000) : smR (frN X Y) (frD X Y) = true :=
  smR_sz (Sz.fr hY h1 h2).1 (Sz.fr hY h1 h2).2 (low_fr hY).1 ha
theorem decR_sz {p q : Int} {n : Nat} (hq : 0 < q) (h : (decR p q).length ≤ n) (hn : 0 < n) : Sz n p ∧ Sz n q := by
  unfold decR at h
  by_cases h1 : q = 1
  · rw [if_pos h1] at h
    refine ⟨dec_bound h, ?_⟩
    subst h1
    exact Nat.pow_pos (by omega)
  · rw [if_neg h1, List.length_append, List.length_cons] at h
    have hq2 := decN_bound (n := q.toNat) (m := n) (by omega)
    refine ⟨dec_bound (by omega), ?_⟩
    unfold Sz
    omega
end Go.Proofs.YtblbheilddafbaaGreatDoor

set_option linter.unusedVariables false
set_option linter.unusedSimpArgs false
/-! Fractions that are equal: the laws of a field. -/
namespace Go.Proofs.YtblbheilddafbaaGreatDoor
open Go Go.RowKit
theorem cross_trans {a b c d e f : Int} (hd : d ≠ 0) (h1 : a * d = c * b) (h2 : c * f = e * d) : a * f = e * b := by
  apply Int.eq_of_mul_eq_mul_right hd
  calc a * f * d = a * d * f := by simp only [Int.mul_comm, Int.mul_left_comm]
    _ = c * f * b := by rw [h1]; simp only [Int.mul_comm, Int.mul_left_comm]
    _ = e * b * d := by rw [h2]; simp only [Int.mul_comm, Int.mul_left_comm]
theorem cross_mul {n d N D p q P Q : Int} (h1 : n * D = N * d) (h2 : p * Q = P * q) : n * p * (D * Q) = N * P * (d * q) := by
  calc n * p * (D * Q) = n * D * (p * Q) := by simp only [Int.mul_comm, Int.mul_left_comm]
    _ = N * P * (d * q) := by rw [h1, h2]; simp only [Int.mul_comm, Int.mul_left_comm]
theorem cross_add {n d N D p q P Q : Int} (h1 : n * D = N * d) (h2 : p * Q = P * q) : (n * q + p * d) * (D * Q) = (N * Q + P * D) * (d * q) := by
  rw [Int.add_mul, Int.add_mul]
  congr 1
  · calc n * q * (D * Q) = n * D * (q * Q) := by simp only [Int.mul_comm, Int.mul_left_comm]
      _ = N * Q * (d * q) := by rw [h1]; simp only [Int.mul_comm, Int.mul_left_comm]
  · calc p * d * (D * Q) = p * Q * (d * D) := by simp only [Int.mul_comm, Int.mul_left_comm]
      _ = P * D * (d * q) := by rw [h2]; simp only [Int.mul_comm, Int.mul_left_comm]
theorem fr_to {X Y p q : Int} (hY : Y ≠ 0) (hl : Low p q) (h : X * q = p * Y) : frN X Y = p ∧ frD X Y = q :=
  low_unique (low_fr hY) hl (cross_trans hY (fr_cross hY) h)
theorem fld_dist {P1 Q1 P2 Q2 P3 Q3 BN BD PN PD AN AD CN CD : Int} (h1 : Q1 ≠ 0) (h2 : Q2 ≠ 0) (h3 : Q3 ≠ 0) (hb : BD ≠ 0)
    (eB : BN * (Q2 * Q3) = (P2 * Q3 + P3 * Q2) * BD) (eP : PN * (Q1 * BD) = P1 * BN * PD) (eA : AN * (Q1 * Q2) = P1 * P2 * AD) (eC : CN * (Q1 * Q3) = P1 * P3 * CD) :
    (AN * CD + CN * AD) * PD = PN * (AD * CD) := by
  have s := cross_add eA eC
  have p1 := cross_mul (rfl : P1 * Q1 = P1 * Q1) eB
  have p2 := cross_trans (Int.mul_ne_zero h1 hb) eP p1
  refine cross_trans (Int.mul_ne_zero (Int.mul_ne_zero h1 h2) (Int.mul_ne_zero h1 h3)) s (Eq.symm (cross_trans (Int.mul_ne_zero h1 (Int.mul_ne_zero h2 h3)) p2 ?_))
  simp only [Int.mul_add, Int.add_mul, Int.mul_comm, Int.mul_left_comm]
theorem fld_quo {P1 Q1 P2 Q2 AN AD : Int} (eA : AN * (Q1 * Q2) = P1 * P2 * AD) : AN * Q2 * Q1 = P1 * (AD * P2) := by
  calc AN * Q2 * Q1 = AN * (Q1 * Q2) := by simp only [Int.mul_comm, Int.mul_left_comm]
    _ = P1 * P2 * AD := eA
    _ = P1 * (AD * P2) := by simp only [Int.mul_comm, Int.mul_left_comm]
theorem fld_back {P2 Q2 RN RD : Int} (eR : RN * (1 * P2) = 1 * Q2 * RD) : RN * P2 * 1 = 1 * (RD * Q2) := by
  rw [Int.one_mul, Int.one_mul] at eR
  rw [Int.mul_one, Int.one_mul, eR, Int.mul_comm]
theorem sg_neg2 {P1 Q1 P2 Q2 : Int} : Dg.sg (-P2 * Q1) (-P1 * Q2) = Dg.sg (P1 * Q2) (P2 * Q1) := by
  rw [Int.neg_mul, Int.neg_mul]
  generalize P1 * Q2 = x
  generalize P2 * Q1 = y
  exact sg_mono (by omega) (by omega)
theorem low_11 : Low 1 1 := ⟨by decide, by decide⟩
theorem fr_11 : frN 1 1 = 1 ∧ frD 1 1 = 1 := ⟨by decide, by decide⟩
theorem sz_one (n : Nat) : Sz n 1 := Nat.pow_pos (by omega)
end Go.Proofs.YtblbheilddafbaaGreatDoor
