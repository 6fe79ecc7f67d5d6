/-
  Plain facts: the number of remainders beyond the half, by points of a lattice; quadratic reciprocity. No program.
-/
import Derived.Test.YtalahdkhglagpaaGreatDoorDqa
set_option linter.unusedVariables false
set_option linter.unusedSimpArgs false
namespace Go.Proofs.YtalahdkhglagpaaGreatDoor.Dqr
open Dnt
theorem smn_add {α : Type} {f g : α → Nat} (l : List α) : smn (fun x => f x + g x) l = smn f l + smn g l := by
  induction l with
  | nil => rfl
  | cons x t ih => simp only [smn, ih]; omega
theorem smn_mulc {α : Type} {f : α → Nat} (c : Nat) (l : List α) : smn (fun x => c * f x) l = c * smn f l := by
  induction l with
  | nil => simp [smn]
  | cons x t ih => simp only [smn, ih, Nat.mul_add]
theorem smn_const {α : Type} (c : Nat) (l : List α) : smn (fun _ => c) l = l.length * c := by
  induction l with
  | nil => simp [smn]
  | cons x t ih => simp only [smn, ih, List.length_cons, Nat.succ_mul]; omega
theorem smn_mod {α : Type} {f g : α → Nat} {l : List α} {m : Nat} (h : ∀ x ∈ l, f x % m = g x % m) : smn f l % m = smn g l % m := by
  induction l with
  | nil => rfl
  | cons x t ih =>
    simp only [smn]
    rw [Nat.add_mod, h x (by simp), ih fun y hy => h y (by simp [hy]), ← Nat.add_mod]
theorem smn_swap {α β : Type} {f : α → β → Nat} (l : List α) (m : List β) : smn (fun x => smn (f x) m) l = smn (fun y => smn (fun x => f x y) l) m := by
  induction l with
  | nil => simp only [smn]; rw [smn_const]; simp
  | cons x t ih => simp only [smn, ih]; rw [smn_add]
section
variable {p : Nat}
theorem rr_nat (a k : Nat) : rr p (a : Int) k = (a * k) % p := by
  unfold rr
  rw [← Int.natCast_mul, ← Int.natCast_emod]
  rfl
/-- The parity of the remainders beyond the half, at a natural number. -/
theorem mu_par (hp : isPr p) (ho : p % 2 = 1) {a : Nat} (ha : ¬ a % p = 0) : (a * smn id (upto (p / 2))) % 2 = (smn (fun k => a * k / p) (upto (p / 2)) + smn id (upto (p / 2)) + mu p a) % 2 := by
  have haI : ¬ (a : Int) % (p : Int) = 0 := fun h => ha (by rw [int_mod_nat, Int.natAbs_natCast] at h; exact h)
  obtain ⟨K, hK⟩ : ∃ K, upto (p / 2) = K := ⟨_, rfl⟩
  have h1 : a * smn id K = p * smn (fun k => a * k / p) K + smn (rr p a) K := by
    rw [← smn_mulc, ← smn_mulc, ← smn_add]
    refine smn_congr fun k _ => ?_
    rw [rr_nat]
    exact (Nat.div_add_mod (a * k) p).symm
  have h2 : smn (rr p a) K % 2 = (smn (ss p a) K + smn (lg p a) K) % 2 := by
    rw [← smn_add]
    refine smn_mod fun k _ => ?_
    have := rr_lt (a := (a : Int)) (show 0 < p by omega) k
    unfold ss lg
    by_cases h : rr p a k ≤ p / 2
    · rw [if_pos h, if_pos h]; rfl
    · rw [if_neg h, if_neg h]; omega
  have h3 : smn (ss p a) K = smn id K := by
    have := smn_map (f := id) (g := ss p (a : Int)) K
    rw [show smn (fun x => id (ss p (a : Int) x)) K = smn (ss p a) K from rfl] at this
    rw [← this, ← hK]
    exact smn_perm (ss_perm hp ho haI)
  have h4 : mu p a = smn (lg p a) K := by unfold mu; rw [hK]
  rw [hK, h4, h1]
  rw [h3] at h2
  have h5 : (p * smn (fun k => a * k / p) K) % 2 = smn (fun k => a * k / p) K % 2 := by
    rw [Nat.mul_mod, ho, Nat.one_mul, Nat.mod_mod]
  omega
theorem mu_odd (hp : isPr p) (ho : p % 2 = 1) {a : Nat} (ha : ¬ a % p = 0) (hao : a % 2 = 1) : mu p a % 2 = smn (fun k => a * k / p) (upto (p / 2)) % 2 := by
  have h := mu_par hp ho ha
  rw [Nat.mul_mod, hao, Nat.one_mul, Nat.mod_mod] at h
  omega
theorem smn_id (n : Nat) : 2 * smn id (upto n) = n * (n + 1) := by
  have app : ∀ (f : Nat → Nat) (l m : List Nat), smn f (l ++ m) = smn f l + smn f m := by
    intro f l m
    induction l with
    | nil => simp [smn]
    | cons x t ih => simp only [List.cons_append, smn, ih]; omega
  induction n with
  | zero => rfl
  | succ n ih =>
    rw [upto_succ, app, Nat.mul_add, ih]
    simp only [smn, id]
    rw [← Nat.add_mul, Nat.mul_comm, Nat.add_zero]
theorem mu_two (hp : isPr p) (ho : p % 2 = 1) (hp3 : 3 ≤ p) : mu p 2 % 2 = smn id (upto (p / 2)) % 2 := by
  have h := mu_par hp ho (a := 2) (by rw [Nat.mod_eq_of_lt (by omega)]; omega)
  have hz : smn (fun k => 2 * k / p) (upto (p / 2)) = 0 := by
    rw [smn_congr (g := fun _ => 0) (fun k hk => ?_), smn_const, Nat.mul_zero]
    have := mem_upto.1 hk
    exact Nat.div_eq_of_lt (by omega)
  rw [hz] at h
  have : mu p ((2 : Nat) : Int) = mu p 2 := rfl
  omega
/-- floor(m / q) counts the multiples of q up to m. -/
theorem div_count {q m M : Nat} (hq : 0 < q) (h : m / q ≤ M) : m / q = smn (fun l => if q * l ≤ m then 1 else 0) (upto M) := by
  have app : ∀ (f : Nat → Nat) (l m : List Nat), smn f (l ++ m) = smn f l + smn f m := by
    intro f l m
    induction l with
    | nil => simp [smn]
    | cons x t ih => simp only [List.cons_append, smn, ih]; omega
  have key : ∀ M, smn (fun l => if q * l ≤ m then 1 else 0) (upto M) = min M (m / q) := by
    intro M
    induction M with
    | zero => simp [upto, smn]
    | succ M ih =>
      rw [upto_succ, app, ih]
      simp only [smn]
      by_cases h1 : q * (M + 1) ≤ m
      · have : M + 1 ≤ m / q := (Nat.le_div_iff_mul_le hq).2 (by rw [Nat.mul_comm]; exact h1)
        rw [if_pos h1]
        omega
      · have : ¬ M + 1 ≤ m / q := fun h2 => h1 (by have := (Nat.le_div_iff_mul_le hq).1 h2; rw [Nat.mul_comm]; exact this)
        rw [if_neg h1]
        omega
  rw [key]
  omega
/-- The points of the lattice. -/
theorem lattice {p q : Nat} (hp : isPr p) (hq : isPr q) (hpo : p % 2 = 1) (hqo : q % 2 = 1) (hne : p ≠ q) :
    smn (fun k => q * k / p) (upto (p / 2)) + smn (fun l => p * l / q) (upto (q / 2)) = (p / 2) * (q / 2) := by
  have hp0 : 0 < p := by omega
  have hq0 : 0 < q := by omega
  have h1 : smn (fun k => q * k / p) (upto (p / 2)) = smn (fun k => smn (fun l => if p * l ≤ q * k then 1 else 0) (upto (q / 2))) (upto (p / 2)) := by
    refine smn_congr fun k hk => div_count hp0 ?_
    have hk2 := (mem_upto.1 hk).2
    have h2 : q * k ≤ q * (p / 2) := Nat.mul_le_mul_left q hk2
    have h3 : q * k < p * (q / 2 + 1) := by
      have h4 : 2 * (q * k) ≤ 2 * (q * (p / 2)) := Nat.mul_le_mul_left 2 h2
      have h8 : q * (2 * (p / 2)) = 2 * (q * (p / 2)) := Nat.mul_left_comm ..
      have h5 : q * (2 * (p / 2)) ≤ q * p := Nat.mul_le_mul_left q (by omega)
      have h6 : 2 * (p * (q / 2 + 1)) = p * (q + 1) := by rw [← Nat.mul_left_comm]; congr 1; omega
      have h9 : p * (q + 1) = p * q + p := by rw [Nat.mul_add, Nat.mul_one]
      have h7 : q * p = p * q := Nat.mul_comm q p
      omega
    have := (Nat.div_lt_iff_lt_mul hp0).2 (by rw [Nat.mul_comm]; exact h3)
    omega
  have h2 : smn (fun l => p * l / q) (upto (q / 2)) = smn (fun l => smn (fun k => if q * k ≤ p * l then 1 else 0) (upto (p / 2))) (upto (q / 2)) := by
    refine smn_congr fun k hk => div_count hq0 ?_
    have hk2 := (mem_upto.1 hk).2
    have h2 : p * k ≤ p * (q / 2) := Nat.mul_le_mul_left p hk2
    have h3 : p * k < q * (p / 2 + 1) := by
      have h4 : 2 * (p * k) ≤ 2 * (p * (q / 2)) := Nat.mul_le_mul_left 2 h2
      have h8 : p * (2 * (q / 2)) = 2 * (p * (q / 2)) := Nat.mul_left_comm ..
      have h5 : p * (2 * (q / 2)) ≤ p * q := Nat.mul_le_mul_left p (by omega)
      have h6 : 2 * (q * (p / 2 + 1)) = q * (p + 1) := by rw [← Nat.mul_left_comm]; congr 1; omega
      have h9 : q * (p + 1) = q * p + q := by rw [Nat.mul_add, Nat.mul_one]
      have h7 : q * p = p * q := Nat.mul_comm q p
      omega
    have := (Nat.div_lt_iff_lt_mul hq0).2 (by rw [Nat.mul_comm]; exact h3)
    omega
  rw [h1, h2, smn_swap (l := upto (q / 2)), ← smn_add]
  have h3 : ∀ k ∈ upto (p / 2), smn (fun l => if p * l ≤ q * k then 1 else 0) (upto (q / 2)) + smn (fun l => if q * k ≤ p * l then 1 else 0) (upto (q / 2)) = q / 2 := by
    intro k hk
    rw [← smn_add, smn_congr (g := fun _ => 1) (fun l hl => ?_), smn_const, upto_len, Nat.mul_one]
    have hk2 := mem_upto.1 hk
    have hl2 := mem_upto.1 hl
    have hne2 : p * l ≠ q * k := fun e => by
      have : (q * k) % p = 0 := by rw [← e]; exact Nat.mul_mod_right p l
      rcases pr_mul hp this with h4 | h4
      · have h5 := Nat.le_of_dvd hq0 (Nat.dvd_of_mod_eq_zero h4)
        exact hq.2 p hp.1 (by omega) h4
      · rw [Nat.mod_eq_of_lt (by omega)] at h4
        omega
    by_cases h4 : p * l ≤ q * k
    · rw [if_pos h4, if_neg (by omega)]
    · rw [if_neg h4, if_pos (by omega)]
  rw [smn_congr h3, smn_const, upto_len]
end
end Go.Proofs.YtalahdkhglagpaaGreatDoor.Dqr
