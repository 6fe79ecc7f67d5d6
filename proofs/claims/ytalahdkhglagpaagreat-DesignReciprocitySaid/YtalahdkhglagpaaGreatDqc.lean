/-
  Plain facts: Legendre's symbol and the symbol at a place: a product in each argument, the same either way round, 1 on a and -a. No program.
-/
import Derived.Test.YtalahdkhglagpaaGreatDo
import Derived.Test.YtalahdkhglagpaaGreatDqb
set_option linter.unusedVariables false
set_option linter.unusedSimpArgs false
namespace Go.Proofs.YtalahdkhglagpaaGreat
open Dnt Dqr
theorem sgF_nat (n : Nat) : sgF (n : Int) = sgn n := by
  unfold sgF sgn
  by_cases h : n % 2 = 0
  · rw [if_pos h, if_pos (by omega)]
  · rw [if_neg h, if_neg (by omega)]
theorem sgF_par {x y : Int} (h : x % 2 = y % 2) : sgF x = sgF y := by
  unfold sgF
  rw [h]
theorem sgF_sq (x : Int) : sgF x * sgF x = 1 := by
  rcases sgF_or x with h | h <;> rw [h] <;> rfl
theorem sgF_zero : sgF 0 = 1 := rfl
theorem sgn_par {m n : Nat} (h : m % 2 = n % 2) : sgn m = sgn n := by
  unfold sgn
  rw [h]
theorem neg_mod {p : Nat} (h3 : 3 ≤ p) : (-1 : Int) % (p : Int) = p - 1 := by
  rw [← Int.add_emod_right, Int.emod_eq_of_lt (by omega) (by omega)]
  omega
theorem sgn_cong {m n p : Nat} (h3 : 3 ≤ p) (h : sgn m % (p : Int) = sgn n % (p : Int)) : sgn m = sgn n := by
  have h1 : (1 : Int) % (p : Int) = 1 := Int.emod_eq_of_lt (by omega) (by omega)
  have h2 := neg_mod h3
  rcases sgn_or m with e | e <;> rcases sgn_or n with e' | e' <;> rw [e, e'] at h ⊢ <;> omega
theorem lg_sgn {p : Nat} (hp : isPr p) (ho : p % 2 = 1) {u : Int} (hu : ¬ u % (p : Int) = 0) : lgF u p = sgn (mu p u) := by
  have h := gauss hp ho hu
  have h3 : 3 ≤ p := by have := hp.1; omega
  have e : (((p : Int) - 1) / 2).toNat = p / 2 := by omega
  unfold lgF eul
  rw [e, h]
  rcases sgn_or (mu p u) with h1 | h1 <;> rw [h1]
  · rw [Int.emod_eq_of_lt (by omega) (by omega)]
    simp
  · rw [neg_mod h3, decide_eq_false (by omega)]
    simp
theorem lg_mul {p : Nat} (hp : isPr p) (ho : p % 2 = 1) {u v : Int} (hu : ¬ u % (p : Int) = 0) (hv : ¬ v % (p : Int) = 0) : lgF (u * v) p = lgF u p * lgF v p := by
  have h3 : 3 ≤ p := by have := hp.1; omega
  have huv : ¬ (u * v) % (p : Int) = 0 := fun h => (pr_mulI hp h).elim hu hv
  rw [lg_sgn hp ho hu, lg_sgn hp ho hv, lg_sgn hp ho huv, ← sgn_add]
  apply sgn_cong h3
  rw [← gauss hp ho huv, sgn_add, Int.mul_pow, Int.mul_emod, gauss hp ho hu, gauss hp ho hv, ← Int.mul_emod]
theorem neg_pow (n : Nat) : (-1 : Int) ^ n = sgn n := by
  induction n with
  | zero => rfl
  | succ n ih => rw [Int.pow_succ, ih, sgn_add]; rfl
theorem not_dvd {p : Nat} {u : Int} (h : u.natAbs % p ≠ 0) : ¬ u % (p : Int) = 0 := fun h' => h (int_mod_nat.1 h')
theorem lg_neg {p : Nat} (hp : isPr p) (ho : p % 2 = 1) : lgF (-1) p = sgn (p / 2) := by
  have h3 : 3 ≤ p := by have := hp.1; omega
  have hu : ¬ (-1 : Int) % (p : Int) = 0 := by rw [neg_mod h3]; omega
  rw [lg_sgn hp ho hu]
  apply sgn_cong h3
  rw [← gauss hp ho hu, neg_pow]
theorem lg_two {p : Nat} (hp : isPr p) (ho : p % 2 = 1) : lgF 2 p = sgn (smn id (upto (p / 2))) := by
  have h3 : 3 ≤ p := by have := hp.1; omega
  have hu : ¬ (2 : Int) % (p : Int) = 0 := by rw [Int.emod_eq_of_lt (by omega) (by omega)]; omega
  rw [lg_sgn hp ho hu]
  exact sgn_par (mu_two hp ho h3)
theorem lg_qr {p q : Nat} (hp : isPr p) (hq : isPr q) (hpo : p % 2 = 1) (hqo : q % 2 = 1) (hne : p ≠ q) : lgF (q : Int) p * lgF (p : Int) q = sgn ((p / 2) * (q / 2)) := by
  have hqp : ¬ q % p = 0 := fun h => hq.2 p hp.1 (by
    have := Nat.le_of_dvd (by have := hq.1; omega) (Nat.dvd_of_mod_eq_zero h)
    omega) h
  have hpq : ¬ p % q = 0 := fun h => hp.2 q hq.1 (by
    have := Nat.le_of_dvd (by have := hp.1; omega) (Nat.dvd_of_mod_eq_zero h)
    omega) h
  rw [lg_sgn hp hpo (not_dvd (by simpa using hqp)), lg_sgn hq hqo (not_dvd (by simpa using hpq)), ← sgn_add]
  apply sgn_par
  have h1 := mu_odd hp hpo hqp hqo
  have h2 := mu_odd hq hqo hpq hpo
  have h3 := lattice hp hq hpo hqo hne
  rw [← h3]
  omega
/-- The part of a prime in a product. -/
theorem vp_mul {p : Nat} (hp : isPr p) {a b : Int} (ha : a ≠ 0) (hb : b ≠ 0) : vpn p (a * b) = vpn p a + vpn p b ∧ vpr p (a * b) = vpr p a * vpr p b := by
  have h2 : (2 : Int) ≤ (p : Int) := by have := hp.1; omega
  obtain ⟨h3, h4⟩ := vp_spl h2 ha
  obtain ⟨h5, h6⟩ := vp_spl h2 hb
  refine vp_of h2 ⟨?_, fun h => (pr_mulI hp h).elim h4 h6⟩ (Int.mul_ne_zero ha hb)
  conv => lhs; rw [h3, h5]
  rw [Int.pow_add, Int.mul_assoc, Int.mul_assoc, Int.mul_left_comm (vpr _ a)]
theorem sgF_nsj (i j : Nat) (u p : Int) : sgF (((i + j : Nat) : Int) * nsF u p) = sgF ((i : Int) * nsF u p) * sgF ((j : Int) * nsF u p) := by
  rw [← sgF_add, Int.natCast_add, Int.add_mul]
theorem sgF_nsm {p : Nat} (hp : isPr p) (ho : p % 2 = 1) (j : Nat) {u v : Int} (hu : ¬ u % (p : Int) = 0) (hv : ¬ v % (p : Int) = 0) : sgF ((j : Int) * nsF (u * v) p) = sgF ((j : Int) * nsF u p) * sgF ((j : Int) * nsF v p) := by
  rw [sgF_ns, sgF_ns, sgF_ns]
  by_cases h : (j : Int) % 2 = 0
  · rw [if_pos h, if_pos h, if_pos h]; rfl
  · rw [if_neg h, if_neg h, if_neg h, lg_mul hp ho hu hv]
/-- The symbol at an odd prime as a product of signs. -/
theorem sy_odd {p : Nat} (hp : isPr p) (ho : p % 2 = 1) (a b : Int) : syF a b p = sgF (((vpn p a * vpn p b * (p / 2) : Nat)) : Int) * sgF ((vpn p b : Nat) * nsF (vpr p a) p) * sgF ((vpn p a : Nat) * nsF (vpr p b) p) := by
  have h3 : 3 ≤ p := by have := hp.1; omega
  rw [syF_odd a b (by omega), sgF_add, sgF_add]
  have e : ((vpn p a : Nat) : Int) * (vpn p b : Nat) * ((p : Int) - 1) = 2 * ((vpn p a * vpn p b * (p / 2) : Nat) : Int) := by
    rw [show (p : Int) - 1 = 2 * ((p / 2 : Nat) : Int) by omega, Int.natCast_mul, Int.natCast_mul, Int.mul_left_comm]
  rw [e, Int.mul_tdiv_cancel_left _ (by decide)]
/-- The classes of an odd number. -/
def ep (u : Int) : Int := if u % 4 = 1 then 0 else 1
def om (u : Int) : Int := if u % 8 = 1 ∨ u % 8 = 7 then 0 else 1
theorem ep_eq {u : Int} (h : ¬ u % 2 = 0) : (u - 1).tdiv 2 % 2 = ep u % 2 := by
  obtain ⟨k, rfl⟩ : ∃ k, u = 2 * k + 1 := ⟨u / 2, by omega⟩
  rw [show 2 * k + 1 - 1 = 2 * k by omega, Int.mul_tdiv_cancel_left _ (by decide)]
  unfold ep
  by_cases h1 : (2 * k + 1) % 4 = 1
  · rw [if_pos h1]; omega
  · rw [if_neg h1]; omega
theorem om_eq {u : Int} (h : ¬ u % 2 = 0) : (u * u - 1).tdiv 8 % 2 = om u % 2 := by
  obtain ⟨m, s, hs, rfl⟩ : ∃ m s, (s = 1 ∨ s = 3 ∨ s = 5 ∨ s = 7) ∧ u = 8 * m + s := ⟨u / 8, u % 8, by omega, by omega⟩
  have e : (8 * m + s) * (8 * m + s) = 64 * (m * m) + 16 * (m * s) + s * s := by
    have e1 : 8 * m * (8 * m) = 64 * (m * m) := by rw [Int.mul_assoc, Int.mul_left_comm m 8 m]; omega
    have e2 : s * (8 * m) = 8 * (m * s) := by rw [Int.mul_left_comm, Int.mul_comm s]
    rw [Int.add_mul, Int.mul_add, Int.mul_add, e1, e2, Int.mul_assoc]
    omega
  rw [e]
  obtain ⟨k, hk⟩ : ∃ k, m * m = k := ⟨_, rfl⟩
  rw [hk]
  unfold om
  rcases hs with rfl | rfl | rfl | rfl
  · rw [show 64 * k + 16 * (m * 1) + 1 * 1 - 1 = 8 * (8 * k + 2 * m) by omega, Int.mul_tdiv_cancel_left _ (by decide), if_pos (by omega)]; omega
  · rw [show 64 * k + 16 * (m * 3) + 3 * 3 - 1 = 8 * (8 * k + 6 * m + 1) by omega, Int.mul_tdiv_cancel_left _ (by decide), if_neg (by omega)]; omega
  · rw [show 64 * k + 16 * (m * 5) + 5 * 5 - 1 = 8 * (8 * k + 10 * m + 3) by omega, Int.mul_tdiv_cancel_left _ (by decide), if_neg (by omega)]; omega
  · rw [show 64 * k + 16 * (m * 7) + 7 * 7 - 1 = 8 * (8 * k + 14 * m + 6) by omega, Int.mul_tdiv_cancel_left _ (by decide), if_pos (by omega)]; omega
theorem ep_or (u : Int) : ep u = 0 ∨ ep u = 1 := by
  unfold ep
  by_cases h : u % 4 = 1
  · exact .inl (if_pos h)
  · exact .inr (if_neg h)
theorem om_or (u : Int) : om u = 0 ∨ om u = 1 := by
  unfold om
  by_cases h : u % 8 = 1 ∨ u % 8 = 7
  · exact .inl (if_pos h)
  · exact .inr (if_neg h)
theorem ep_mul {u v : Int} (hu : ¬ u % 2 = 0) (hv : ¬ v % 2 = 0) : ep (u * v) % 2 = (ep u + ep v) % 2 := by
  have e := Int.mul_emod u v 4
  unfold ep
  rcases (show u % 4 = 1 ∨ u % 4 = 3 by omega) with h1 | h1 <;> rcases (show v % 4 = 1 ∨ v % 4 = 3 by omega) with h2 | h2 <;> rw [h1, h2] at e <;> rw [h1, h2, e] <;> decide
theorem om_mul {u v : Int} (hu : ¬ u % 2 = 0) (hv : ¬ v % 2 = 0) : om (u * v) % 2 = (om u + om v) % 2 := by
  have e := Int.mul_emod u v 8
  unfold om
  rcases (show u % 8 = 1 ∨ u % 8 = 3 ∨ u % 8 = 5 ∨ u % 8 = 7 by omega) with h1 | h1 | h1 | h1 <;> rcases (show v % 8 = 1 ∨ v % 8 = 3 ∨ v % 8 = 5 ∨ v % 8 = 7 by omega) with h2 | h2 | h2 | h2 <;> rw [h1, h2] at e <;> rw [h1, h2, e] <;> decide
theorem sgF_mpar {x y z : Int} (h : x % 2 = y % 2) : sgF (z * x) = sgF (z * y) := by
  apply sgF_par
  rw [Int.mul_emod, h, ← Int.mul_emod]
/-- The symbol at two as a product of signs. -/
theorem sy_two {a b : Int} (ha : a ≠ 0) (hb : b ≠ 0) : syF a b 2 = sgF (ep (vpr 2 a) * ep (vpr 2 b)) * sgF ((vpn 2 a : Nat) * om (vpr 2 b)) * sgF ((vpn 2 b : Nat) * om (vpr 2 a)) := by
  have h1 := (vp_spl (p := 2) (by omega) ha).2
  have h2 := (vp_spl (p := 2) (by omega) hb).2
  unfold syF
  rw [if_neg (by omega), if_pos rfl, sgF_add, sgF_add, sgF_mpar (om_eq h1), sgF_mpar (om_eq h2), sgF_mpar (ep_eq h2), Int.mul_comm ((vpr 2 a - 1).tdiv 2), sgF_mpar (ep_eq h1)]
  rw [Int.mul_comm (ep (vpr 2 b))]
theorem isPr_two : isPr 2 := ⟨by omega, fun d h1 h2 => by omega⟩
/-- A place: -1, 2, or an odd prime. -/
inductive Pla : Int → Prop
  | real : Pla (-1)
  | two : Pla 2
  | odd {p : Nat} (hp : isPr p) (ho : p % 2 = 1) : Pla p
theorem four (x y z w : Int) : x * y * (z * w) = x * z * (y * w) := by
  simp only [Int.mul_assoc, Int.mul_left_comm, Int.mul_comm]
theorem six (a b c d e f : Int) : a * b * (c * d) * (e * f) = a * c * e * (b * d * f) := by
  simp only [Int.mul_assoc, Int.mul_left_comm, Int.mul_comm]
theorem sy_mul {x a b c : Int} (hx : Pla x) (ha : a ≠ 0) (hb : b ≠ 0) (hc : c ≠ 0) : syF a (b * c) x = syF a b x * syF a c x := by
  cases hx with
  | real =>
    rw [syF_real, syF_real, syF_real]
    by_cases h1 : a < 0
    · rcases Int.lt_or_gt_of_ne hb with h2 | h2 <;> rcases Int.lt_or_gt_of_ne hc with h3 | h3
      · rw [if_neg (fun h => by have := Int.mul_pos_of_neg_of_neg h2 h3; omega), if_pos ⟨h1, h2⟩, if_pos ⟨h1, h3⟩]; rfl
      · rw [if_pos ⟨h1, Int.mul_neg_of_neg_of_pos h2 h3⟩, if_pos ⟨h1, h2⟩, if_neg (by omega)]; rfl
      · rw [if_pos ⟨h1, Int.mul_neg_of_pos_of_neg h2 h3⟩, if_neg (by omega), if_pos ⟨h1, h3⟩]; rfl
      · rw [if_neg (fun h => by have := Int.mul_pos h2 h3; omega), if_neg (by omega), if_neg (by omega)]; rfl
    · rw [if_neg (by omega), if_neg (by omega), if_neg (by omega)]; rfl
  | two =>
    have hbc := Int.mul_ne_zero hb hc
    have h1 := (vp_spl (p := 2) (by omega) ha).2
    have h2 := (vp_spl (p := 2) (by omega) hb).2
    have h3 := (vp_spl (p := 2) (by omega) hc).2
    obtain ⟨e1, e2⟩ := vp_mul isPr_two hb hc
    have e1' : vpn 2 (b * c) = vpn 2 b + vpn 2 c := e1
    have e2' : vpr 2 (b * c) = vpr 2 b * vpr 2 c := e2
    rw [sy_two ha hbc, sy_two ha hb, sy_two ha hc, e1', e2', sgF_mpar (ep_mul h2 h3), sgF_mpar (om_mul h2 h3), Int.mul_add, Int.mul_add, Int.natCast_add, Int.add_mul, sgF_add, sgF_add, sgF_add]
    exact six ..
  | @odd p hp ho =>
    have h2 : (2 : Int) ≤ (p : Int) := by have := hp.1; omega
    have h4 := (vp_spl h2 hb).2
    have h5 := (vp_spl h2 hc).2
    obtain ⟨e1, e2⟩ := vp_mul hp hb hc
    rw [sy_odd hp ho, sy_odd hp ho, sy_odd hp ho, e1, e2, sgF_nsj, sgF_nsm hp ho _ h4 h5, Nat.mul_add, Nat.add_mul, Int.natCast_add, sgF_add]
    exact six ..
theorem sy_symm {x a b : Int} (hx : Pla x) (ha : a ≠ 0) (hb : b ≠ 0) : syF a b x = syF b a x := by
  cases hx with
  | real =>
    rw [syF_real, syF_real]
    by_cases h : a < 0 ∧ b < 0
    · rw [if_pos h, if_pos ⟨h.2, h.1⟩]
    · rw [if_neg h, if_neg (fun h' => h ⟨h'.2, h'.1⟩)]
  | two => rw [sy_two ha hb, sy_two hb ha, Int.mul_comm (ep _), Int.mul_assoc, Int.mul_comm (sgF ((vpn 2 a : Nat) * om (vpr 2 b))), ← Int.mul_assoc]
  | @odd p hp ho => rw [sy_odd hp ho, sy_odd hp ho, Nat.mul_comm (vpn p a), Int.mul_assoc, Int.mul_comm (sgF ((vpn p b : Nat) * nsF (vpr p a) p)), ← Int.mul_assoc]
theorem sy_or {x a b : Int} : syF a b x = 1 ∨ syF a b x = -1 := by
  unfold syF
  by_cases h1 : x = -1
  · rw [if_pos h1]
    by_cases h : a < 0 ∧ b < 0
    · exact .inr (if_pos h)
    · exact .inl (if_neg h)
  · rw [if_neg h1]
    by_cases h2 : x = 2
    · rw [if_pos h2]; exact sgF_or _
    · rw [if_neg h2]; exact sgF_or _
theorem sy_sq {x a b : Int} : syF a b x * syF a b x = 1 := by
  rcases @sy_or x a b with h | h <;> rw [h] <;> rfl
theorem vp_neg {p : Nat} (hp : isPr p) {a : Int} (ha : a ≠ 0) : vpn p (-a) = vpn p a ∧ vpr p (-a) = - vpr p a := by
  have h2 : (2 : Int) ≤ (p : Int) := by have := hp.1; omega
  obtain ⟨h3, h4⟩ := vp_spl h2 ha
  refine vp_of h2 ⟨?_, fun h => h4 (Int.emod_eq_zero_of_dvd (Int.dvd_neg.1 (Int.dvd_of_emod_eq_zero h)))⟩ (by omega)
  conv => lhs; rw [h3]
  rw [Int.mul_neg]
theorem sy_neg {x a : Int} (hx : Pla x) (ha : a ≠ 0) : syF a (-a) x = 1 := by
  cases hx with
  | real => rw [syF_real, if_neg (by omega)]
  | two =>
    have h1 := (vp_spl (p := 2) (by omega) ha).2
    obtain ⟨e1, e2⟩ := vp_neg isPr_two ha
    have e1' : vpn 2 (-a) = vpn 2 a := e1
    have e2' : vpr 2 (-a) = - vpr 2 a := e2
    rw [sy_two ha (by omega), e1', e2']
    obtain ⟨u, hu⟩ : ∃ u, vpr 2 a = u := ⟨_, rfl⟩
    rw [hu] at h1 ⊢
    have e3 : om (-u) = om u := by
      unfold om
      by_cases h : u % 8 = 1 ∨ u % 8 = 7
      · rw [if_pos h, if_pos (by omega)]
      · rw [if_neg h, if_neg (by omega)]
    have e4 : ep u * ep (-u) = 0 := by
      unfold ep
      by_cases h : u % 4 = 1
      · rw [if_pos h, Int.zero_mul]
      · rw [if_neg h, if_pos (by omega)]; rfl
    rw [e3, e4, Int.mul_assoc, sgF_sq]
    rfl
  | @odd p hp ho =>
    have h2 : (2 : Int) ≤ (p : Int) := by have := hp.1; omega
    have h4 := (vp_spl h2 ha).2
    obtain ⟨e1, e2⟩ := vp_neg hp ha
    have hn : ¬ (-1 : Int) % (p : Int) = 0 := by rw [neg_mod (by have := hp.1; omega)]; omega
    rw [sy_odd hp ho, e1, e2, show - vpr p a = -1 * vpr p a by omega, sgF_nsm hp ho _ hn h4, Int.mul_comm (sgF ((vpn p a : Nat) * nsF (-1) p)), Int.mul_assoc, ← Int.mul_assoc (sgF ((vpn p a : Nat) * nsF (vpr p a) p)), sgF_sq, Int.one_mul, sgF_ns, lg_neg hp ho, sgF_nat]
    by_cases h : (vpn p a : Int) % 2 = 0
    · rw [if_pos h, Int.mul_one]
      unfold sgn
      rw [if_pos]
      rw [Nat.mul_mod, Nat.mul_mod (vpn p a), show vpn p a % 2 = 0 by omega]
      simp
    · rw [if_neg h, ← sgn_add]
      unfold sgn
      rw [if_pos]
      have h5 : vpn p a % 2 = 1 := by omega
      have h6 : (vpn p a * vpn p a * (p / 2)) % 2 = p / 2 % 2 := by rw [Nat.mul_mod, Nat.mul_mod (vpn p a), h5, Nat.one_mul]; omega
      omega
/-- At an odd prime that divides neither, the symbol is 1. -/
theorem sy_unram {p : Nat} (hp : isPr p) (ho : p % 2 = 1) {a b : Int} (ha : a ≠ 0) (hb : b ≠ 0) (h1 : ¬ a % (p : Int) = 0) (h2 : ¬ b % (p : Int) = 0) : syF a b p = 1 := by
  have h3 : (2 : Int) ≤ (p : Int) := by have := hp.1; omega
  have e1 := (vp_of h3 (n := a) (u := a) (e := 0) ⟨by simp, h1⟩ ha).1
  have e2 := (vp_of h3 (n := b) (u := b) (e := 0) ⟨by simp, h2⟩ hb).1
  rw [sy_odd hp ho, e1, e2]
  simp [sgF]
end Go.Proofs.YtalahdkhglagpaaGreat
