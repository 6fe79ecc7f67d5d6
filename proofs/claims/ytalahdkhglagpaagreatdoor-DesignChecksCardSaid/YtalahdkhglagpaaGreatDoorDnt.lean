/-
  Plain facts on numbers: the part of a prime, powers modulo a number, trial division, places. No program.
-/
set_option linter.unusedVariables false
set_option linter.unusedSimpArgs false
namespace Go.Proofs.YtalahdkhglagpaaGreatDoor.Dnt
/-- n is p^e times u, and p does not divide u. -/
def Spl (p n : Int) (e : Nat) (u : Int) : Prop := n = p ^ e * u ∧ ¬ u % p = 0
theorem Spl.stop {p n u : Int} {e : Nat} (h : Spl p n e u) (hp : 2 ≤ p) (hn : ¬ n % p = 0) : e = 0 ∧ n = u := by
  obtain ⟨h1, h2⟩ := h
  cases e with
  | zero => exact ⟨rfl, by simpa using h1⟩
  | succ e =>
    exfalso
    apply hn
    rw [h1, Int.pow_succ, Int.mul_comm (p ^ e) p, Int.mul_assoc]
    exact Int.mul_emod_right p _
theorem Spl.step {p n u : Int} {e : Nat} (h : Spl p n e u) (hp : 2 ≤ p) (hn : n % p = 0) : ∃ k, e = k + 1 ∧ Spl p (n.tdiv p) k u := by
  obtain ⟨h1, h2⟩ := h
  cases e with
  | zero => exact absurd (by rw [h1] at hn; simpa using hn) h2
  | succ e =>
    refine ⟨e, rfl, ?_, h2⟩
    rw [h1, Int.pow_succ, Int.mul_comm (p ^ e) p, Int.mul_assoc]
    exact Int.mul_tdiv_cancel_left _ (by omega)
theorem tdiv_lt {p n : Int} (hp : 2 ≤ p) (hn : n ≠ 0) (h : n % p = 0) : (n.tdiv p).natAbs < n.natAbs ∧ n.tdiv p ≠ 0 := by
  obtain ⟨k, hk⟩ := Int.dvd_of_emod_eq_zero h
  subst hk
  rw [Int.mul_tdiv_cancel_left _ (show p ≠ 0 by omega)]
  have hk0 : k ≠ 0 := fun e => hn (by rw [e, Int.mul_zero])
  refine ⟨?_, hk0⟩
  rw [Int.natAbs_mul]
  have h1 : 2 ≤ p.natAbs := by omega
  have h2 : 1 ≤ k.natAbs := by omega
  calc k.natAbs < 2 * k.natAbs := by omega
    _ ≤ p.natAbs * k.natAbs := Nat.mul_le_mul_right _ h1
theorem Spl.ex {p : Int} (hp : 2 ≤ p) : ∀ (m : Nat) (n : Int), n.natAbs ≤ m → n ≠ 0 → ∃ e u, Spl p n e u
  | 0, n, h, h0 => absurd (by omega) h0
  | m + 1, n, h, h0 => by
    by_cases hd : n % p = 0
    · obtain ⟨h1, h2⟩ := tdiv_lt hp h0 hd
      obtain ⟨e, u, h3, h4⟩ := Spl.ex hp m (n.tdiv p) (by omega) h2
      refine ⟨e + 1, u, ?_, h4⟩
      rw [Int.pow_succ, Int.mul_comm (p ^ e) p, Int.mul_assoc, ← h3, Int.mul_tdiv_cancel' (Int.dvd_of_emod_eq_zero hd)]
    · exact ⟨0, n, by simp, hd⟩
theorem Spl.uniq {p : Int} (hp : 2 ≤ p) : ∀ {e e' : Nat} {n u u' : Int}, Spl p n e u → Spl p n e' u' → e = e' ∧ u = u'
  | 0, 0, n, u, u', ⟨h1, _⟩, ⟨h2, _⟩ => ⟨rfl, by rw [h1] at h2; simpa using h2⟩
  | 0, e' + 1, n, u, u', h, h' => by
    have hn : ¬ n % p = 0 := by have := h.1; rw [this]; simpa using h.2
    have := (h'.stop hp hn).1
    omega
  | e + 1, 0, n, u, u', h, h' => by
    have hn : ¬ n % p = 0 := by have := h'.1; rw [this]; simpa using h'.2
    have := (h.stop hp hn).1
    omega
  | e + 1, e' + 1, n, u, u', h, h' => by
    have hn : n % p = 0 := by
      rw [h.1, Int.pow_succ, Int.mul_comm (p ^ e) p, Int.mul_assoc]
      exact Int.mul_emod_right p _
    obtain ⟨k, hk, h1⟩ := h.step hp hn
    obtain ⟨k', hk', h2⟩ := h'.step hp hn
    obtain rfl : e = k := by omega
    obtain rfl : e' = k' := by omega
    obtain ⟨a, b⟩ := Spl.uniq hp h1 h2
    exact ⟨by omega, b⟩
theorem pow_nz {p : Int} (hp : p ≠ 0) : ∀ e : Nat, p ^ e ≠ 0
  | 0 => by simp
  | e + 1 => by rw [Int.pow_succ]; exact Int.mul_ne_zero (pow_nz hp e) hp
theorem Spl.le {p n u : Int} {e : Nat} (h : Spl p n e u) (hp : 2 ≤ p) (h0 : n ≠ 0) : u.natAbs ≤ n.natAbs ∧ u ≠ 0 ∧ e < n.natAbs + 1 ∧ 2 ^ e ≤ n.natAbs := by
  have hu : u ≠ 0 := fun e' => h0 (by rw [h.1, e', Int.mul_zero])
  have h2 : 2 ^ e ≤ p.natAbs ^ e := Nat.pow_le_pow_left (by omega) e
  have h3 : n.natAbs = p.natAbs ^ e * u.natAbs := by rw [h.1, Int.natAbs_mul, Int.natAbs_pow]
  have hu1 : 1 ≤ u.natAbs := by omega
  have h4 : p.natAbs ^ e ≤ n.natAbs := by rw [h3]; exact Nat.le_mul_of_pos_right _ hu1
  have h5 : 1 ≤ p.natAbs ^ e := Nat.pow_pos (by omega)
  have h6 : e < 2 ^ e := Nat.lt_two_pow_self
  refine ⟨?_, hu, by omega, by omega⟩
  rw [h3]
  exact Nat.le_mul_of_pos_left _ h5
theorem exp_le {e n : Nat} (h : 2 ^ e ≤ n) (hn : n ≤ 1000000000000) : e ≤ 40 := by
  apply Classical.byContradiction
  intro hc
  have : 2 ^ 41 ≤ 2 ^ e := Nat.pow_le_pow_right (by omega) (by omega)
  have h41 : (2 : Nat) ^ 41 = 2199023255552 := by decide
  omega
open Classical in
/-- How often p divides n, and what is left. -/
noncomputable def vpn (p n : Int) : Nat := if h : ∃ e u, Spl p n e u then h.choose else 0
open Classical in
noncomputable def vpr (p n : Int) : Int := if h : ∃ e u, Spl p n e u then h.choose_spec.choose else 0
theorem vp_spl {p n : Int} (hp : 2 ≤ p) (h0 : n ≠ 0) : Spl p n (vpn p n) (vpr p n) := by
  have h := Spl.ex hp n.natAbs n (Nat.le_refl _) h0
  unfold vpn vpr
  rw [dif_pos h, dif_pos h]
  exact h.choose_spec.choose_spec
theorem vp_of {p n u : Int} {e : Nat} (hp : 2 ≤ p) (h : Spl p n e u) (h0 : n ≠ 0) : vpn p n = e ∧ vpr p n = u := Spl.uniq hp (vp_spl hp h0) h
/-- The remainder of a division that cuts towards 0 is the same modulo the divisor. -/
theorem tmod_emod (x p : Int) : (x.tmod p) % p = x % p := by
  have h := Int.tmod_add_mul_tdiv x p
  conv => rhs; rw [← h]
  rw [Int.add_mul_emod_self_left]
theorem tmod_abs (x : Int) {p : Int} (hp : 0 < p) : -p < x.tmod p ∧ x.tmod p < p := by
  have h1 := Int.tmod_lt_of_pos x hp
  have h2 := Int.lt_tmod_of_pos x hp
  omega
theorem mul_mod {x y a b p : Int} (hx : x % p = a % p) (hy : y % p = b % p) : (x * y) % p = (a * b) % p := by
  rw [Int.mul_emod, hx, hy, ← Int.mul_emod]
/-- Whether u to the power of (p - 1) / 2 is 1 modulo p. -/
def eul (u p : Int) : Bool := decide (u ^ ((p - 1) / 2).toNat % p = 1)
/-- The power so far: its number, the square, and the exponent that is left. -/
structure PwAt (N p : Int) (m : Nat) (x y : Int) (e : Nat) : Prop where
  ex : ∃ a b : Nat, x % p = N ^ a % p ∧ y % p = N ^ b % p ∧ a + b * e = m
theorem PwAt.start (N p : Int) (m : Nat) (y : Int) (hy : y % p = N % p) : PwAt N p m 1 y m := ⟨0, 1, by simp, by rw [show N ^ 1 = N by simp [Int.pow_succ]]; exact hy, by omega⟩
theorem PwAt.odd {N p : Int} {m : Nat} {x y : Int} {e : Nat} (h : PwAt N p m x y e) (he : e % 2 = 1) : PwAt N p m ((x * y).tmod p) ((y * y).tmod p) (e / 2) := by
  obtain ⟨a, b, h1, h2, h3⟩ := h.ex
  refine ⟨a + b, b + b, ?_, ?_, ?_⟩
  · rw [tmod_emod, mul_mod h1 h2, Int.pow_add]
  · rw [tmod_emod, mul_mod h2 h2, Int.pow_add]
  · have hd := Nat.div_add_mod e 2
    rw [he] at hd
    have : b * e = b * (2 * (e / 2) + 1) := by rw [hd]
    rw [Nat.mul_add, Nat.mul_one, ← Nat.mul_assoc, Nat.mul_comm b 2] at this
    rw [← Nat.two_mul]
    omega
theorem PwAt.even {N p : Int} {m : Nat} {x y : Int} {e : Nat} (h : PwAt N p m x y e) (he : ¬ e % 2 = 1) : PwAt N p m x ((y * y).tmod p) (e / 2) := by
  obtain ⟨a, b, h1, h2, h3⟩ := h.ex
  refine ⟨a, b + b, h1, ?_, ?_⟩
  · rw [tmod_emod, mul_mod h2 h2, Int.pow_add]
  · have hd := Nat.div_add_mod e 2
    have : b * e = b * (2 * (e / 2)) := by rw [show 2 * (e / 2) = e by omega]
    rw [← Nat.mul_assoc, Nat.mul_comm b 2] at this
    rw [← Nat.two_mul]
    omega
theorem PwAt.done {N p : Int} {m : Nat} {x y : Int} (h : PwAt N p m x y 0) : x % p = N ^ m % p := by
  obtain ⟨a, b, h1, h2, h3⟩ := h.ex
  rw [h1, show a = m by omega]
/-- What notSquare looks at. -/
theorem one_iff {x p : Int} (hp : 2 ≤ p) (h0 : -p < x) (h1 : x < p) : x % p = 1 ↔ x = 1 ∨ x = 1 - p := by
  by_cases h : 0 ≤ x
  · rw [Int.emod_eq_of_lt h h1]; omega
  · rw [← Int.add_emod_right, Int.emod_eq_of_lt (show 0 ≤ x + p by omega) (by omega)]; omega
/-- A prime. -/
def isPr (n : Nat) : Prop := 2 ≤ n ∧ ∀ d, 2 ≤ d → d < n → n % d ≠ 0
theorem isPr_of_sqrt {n : Nat} (h2 : 2 ≤ n) (h : ∀ d, 2 ≤ d → d * d ≤ n → n % d ≠ 0) : isPr n := by
  refine ⟨h2, fun d hd hdn hm => ?_⟩
  obtain ⟨k, hk⟩ := Nat.dvd_of_mod_eq_zero hm
  by_cases hdd : d * d ≤ n
  · exact h d hd hdd hm
  · have hk2 : 2 ≤ k := by
      apply Classical.byContradiction
      intro hc
      have : k = 0 ∨ k = 1 := by omega
      rcases this with rfl | rfl <;> omega
    have hkd : k < d := by
      apply Classical.byContradiction
      intro hc
      have : d * d ≤ d * k := Nat.mul_le_mul_left d (by omega)
      omega
    have : k * k ≤ n := by rw [hk]; exact Nat.mul_le_mul_right k (by omega)
    exact h k hk2 this (by rw [hk]; exact Nat.mul_mod_left _ _)
theorem isPr_sqrt {n : Nat} (h : isPr n) {d : Nat} (hd : 2 ≤ d) (hdd : d * d ≤ n) : n % d ≠ 0 := by
  refine h.2 d hd ?_
  have : d * 2 ≤ d * d := Nat.mul_le_mul_left d hd
  omega
/-- Trial division: what the iterator of primes yields from p on, of what is left. -/
inductive Pf : Nat → Nat → List (Nat × Nat) → Prop
  | done {p n : Nat} : ¬ p * p ≤ n → n ≤ 1 → Pf p n []
  | last {p n : Nat} : ¬ p * p ≤ n → 1 < n → Pf p n [(n, 1)]
  | skip {p n : Nat} {l : List (Nat × Nat)} : p * p ≤ n → n % p ≠ 0 → Pf (p + 1) n l → Pf p n l
  | take {p n e r : Nat} {l : List (Nat × Nat)} : p * p ≤ n → 1 ≤ e → n = p ^ e * r → r % p ≠ 0 → Pf (p + 1) r l → Pf p n ((p, e) :: l)
theorem cut_ex {p : Nat} (hp : 2 ≤ p) : ∀ (m n : Nat), n ≤ m → 1 ≤ n → ∃ e r, n = p ^ e * r ∧ r % p ≠ 0 ∧ 1 ≤ r ∧ r ≤ n
  | 0, n, h, h1 => by omega
  | m + 1, n, h, h1 => by
    by_cases hd : n % p = 0
    · obtain ⟨k, hk⟩ := Nat.dvd_of_mod_eq_zero hd
      have hk1 : 1 ≤ k := by
        apply Classical.byContradiction
        intro hc
        have : k = 0 := by omega
        subst this
        omega
      have hkn : k < n := by
        have : 2 * k ≤ p * k := Nat.mul_le_mul_right k hp
        omega
      obtain ⟨e, r, h2, h3, h4, h5⟩ := cut_ex hp m k (by omega) hk1
      refine ⟨e + 1, r, ?_, h3, h4, by omega⟩
      rw [hk, h2, Nat.pow_succ, ← Nat.mul_assoc, Nat.mul_comm p (p ^ e)]
    · exact ⟨0, n, by simp, hd, h1, Nat.le_refl _⟩
theorem Pf.ex : ∀ (m p n : Nat), n + 1 - p ≤ m → 2 ≤ p → 1 ≤ n → ∃ l, Pf p n l
  | 0, p, n, h, hp, hn => by
    have hpp : ¬ p * p ≤ n := by
      have : p * 2 ≤ p * p := Nat.mul_le_mul_left p hp
      omega
    by_cases h1 : n ≤ 1
    · exact ⟨_, .done hpp h1⟩
    · exact ⟨_, .last hpp (by omega)⟩
  | m + 1, p, n, h, hp, hn => by
    by_cases hpp : p * p ≤ n
    · have hpn : p * 2 ≤ p * p := Nat.mul_le_mul_left p hp
      by_cases hd : n % p = 0
      · obtain ⟨e, r, h2, h3, h4, h5⟩ := cut_ex hp n n (Nat.le_refl _) hn
        have he : 1 ≤ e := by
          apply Classical.byContradiction
          intro hc
          have : e = 0 := by omega
          subst this
          rw [Nat.pow_zero, Nat.one_mul] at h2
          rw [← h2] at h3
          exact h3 hd
        obtain ⟨l, hl⟩ := Pf.ex m (p + 1) r (by omega) (by omega) h4
        exact ⟨_, .take hpp he h2 h3 hl⟩
      · obtain ⟨l, hl⟩ := Pf.ex m (p + 1) n (by omega) (by omega) hn
        exact ⟨_, .skip hpp hd hl⟩
    · by_cases h1 : n ≤ 1
      · exact ⟨_, .done hpp h1⟩
      · exact ⟨_, .last hpp (by omega)⟩
/-- No number from 2 to p - 1 divides n. -/
def Rough (p n : Nat) : Prop := ∀ d, 2 ≤ d → d < p → n % d ≠ 0
theorem Rough.prime {p n : Nat} (h : Rough p n) (hn : 1 < n) (hp : ¬ p * p ≤ n) : isPr n :=
  isPr_of_sqrt (by omega) fun d hd hdd => h d hd (by
    apply Classical.byContradiction
    intro hc
    have : p * p ≤ d * d := Nat.mul_le_mul (by omega) (by omega)
    omega)
theorem Rough.next {p n : Nat} (h : Rough p n) (hn : n % p ≠ 0) : Rough (p + 1) n := fun d hd hdp => by
  by_cases e : d = p
  · subst e; exact hn
  · exact h d hd (by omega)
theorem mod_mul {a b d : Nat} (h : b % d = 0) : (a * b) % d = 0 := by
  obtain ⟨k, hk⟩ := Nat.dvd_of_mod_eq_zero h
  rw [hk, ← Nat.mul_assoc, Nat.mul_comm a d, Nat.mul_assoc]
  exact Nat.mul_mod_right _ _
theorem Rough.part {p n e r : Nat} (h : Rough p n) (hn : n = p ^ e * r) : Rough p r := fun d hd hdp hm => h d hd hdp (by rw [hn]; exact mod_mul hm)
/-- The least divisor is a prime. -/
theorem Rough.prime_div {p n : Nat} (hp : 2 ≤ p) (h : Rough p n) (hd : n % p = 0) : isPr p := by
  refine ⟨hp, fun d hd2 hdp hm => h d hd2 hdp ?_⟩
  obtain ⟨k, hk⟩ := Nat.dvd_of_mod_eq_zero hd
  rw [hk, Nat.mul_comm]
  exact mod_mul hm
theorem pr_dvd_pow {x p : Nat} (hx : isPr x) (hp : isPr p) : ∀ (e r : Nat), (p ^ e * r) % x = 0 → x = p ∨ r % x = 0
  | 0, r, h => .inr (by simpa using h)
  | e + 1, r, h => by
    have hpr : Nat.gcd x p = x ∨ Nat.gcd x p = 1 := by
      have h1 := Nat.gcd_dvd_left x p
      have hle := Nat.le_of_dvd (by have := hx.1; omega) h1
      by_cases h2 : 2 ≤ Nat.gcd x p
      · by_cases h3 : Nat.gcd x p < x
        · exact absurd (Nat.mod_eq_zero_of_dvd h1) (hx.2 _ h2 h3)
        · exact .inl (by omega)
      · have : 0 < Nat.gcd x p := Nat.gcd_pos_of_pos_left _ (by have := hx.1; omega)
        exact .inr (by omega)
    rcases hpr with h1 | h1
    · left
      have h2 : x ∣ p := by rw [← h1]; exact Nat.gcd_dvd_right x p
      have hle := Nat.le_of_dvd (by have := hp.1; omega) h2
      by_cases h3 : x < p
      · exact absurd (Nat.mod_eq_zero_of_dvd h2) (hp.2 x hx.1 h3)
      · omega
    · refine pr_dvd_pow hx hp e r ?_
      have h2 : x ∣ p * (p ^ e * r) := by
        rw [← Nat.mul_assoc, Nat.mul_comm p (p ^ e), ← Nat.pow_succ]
        exact Nat.dvd_of_mod_eq_zero h
      exact Nat.mod_eq_zero_of_dvd (Nat.Coprime.dvd_of_dvd_mul_left h1 h2)
theorem Pf.mem {p n : Nat} {l : List (Nat × Nat)} (h : Pf p n l) : 2 ≤ p → 1 ≤ n → Rough p n → ∀ x, x ∈ l.map (·.1) ↔ isPr x ∧ n % x = 0 := by
  induction h with
  | @done p n hpp h1 =>
    intro hp hn hr x
    obtain rfl : n = 1 := by omega
    simp
    intro hx
    have := hx.1
    omega
  | @last p n hpp h1 =>
    intro hp hn hr x
    have hpr := hr.prime h1 hpp
    simp
    constructor
    · rintro rfl
      exact ⟨hpr, Nat.mod_self _⟩
    · rintro ⟨hx, hm⟩
      have hle := Nat.le_of_dvd (by omega) (Nat.dvd_of_mod_eq_zero hm)
      by_cases hlt : x < n
      · exact absurd hm (hpr.2 x hx.1 hlt)
      · omega
  | @skip p n l hpp hd hl ih =>
    intro hp hn hr x
    exact ih (by omega) hn (hr.next hd) x
  | @take p n e r l hpp he hn2 hrp hl ih =>
    intro hp hn hr x
    have hr1 : 1 ≤ r := by
      apply Classical.byContradiction
      intro hc
      have : r = 0 := by omega
      subst this
      simp at hn2
      omega
    have hpd : n % p = 0 := by
      rw [hn2, show e = (e - 1) + 1 by omega, Nat.pow_succ, Nat.mul_comm (p ^ (e - 1)) p, Nat.mul_assoc]
      exact Nat.mul_mod_right _ _
    have hpp' := hr.prime_div hp hpd
    have := ih (by omega) hr1 ((hr.part hn2).next hrp) x
    rw [List.map_cons, List.mem_cons, this]
    constructor
    · rintro (rfl | ⟨h1, h2⟩)
      · exact ⟨hpp', hpd⟩
      · exact ⟨h1, by rw [hn2]; exact mod_mul h2⟩
    · rintro ⟨h1, h2⟩
      rw [hn2] at h2
      rcases pr_dvd_pow h1 hpp' e r h2 with h3 | h3
      · exact .inl h3
      · exact .inr ⟨h1, h3⟩
theorem Pf.len {p n : Nat} {l : List (Nat × Nat)} (h : Pf p n l) : 2 ≤ p → 1 ≤ n → 2 ^ l.length ≤ n := by
  induction h with
  | done h1 h2 => intro _ hn; simpa using hn
  | last h1 h2 => intro _ _; simp; omega
  | skip h1 h2 h3 ih => intro hp hn; exact ih (by omega) hn
  | @take p n e r l hpp he hn2 hrp hl ih =>
    intro hp hn
    have hr1 : 1 ≤ r := by
      apply Classical.byContradiction
      intro hc
      have : r = 0 := by omega
      subst this
      simp at hn2
      omega
    have h1 := ih (by omega) hr1
    have h2 : 2 ≤ p ^ e := by
      rw [show e = (e - 1) + 1 by omega, Nat.pow_succ]
      have : 1 ≤ p ^ (e - 1) := Nat.pow_pos (by omega)
      calc 2 ≤ 1 * p := by omega
        _ ≤ p ^ (e - 1) * p := Nat.mul_le_mul_right p this
    rw [List.length_cons, Nat.pow_succ, Nat.mul_comm, hn2]
    exact Nat.mul_le_mul h2 h1
/-- The places of a and b: -1, 2 and the primes that divide one of them, rising. -/
structure Pl (a b : Int) (l : List Int) : Prop where
  up : l.Pairwise (· < ·)
  mem : ∀ x, x ∈ l ↔ x = -1 ∨ x = 2 ∨ ∃ m : Nat, x = m ∧ isPr m ∧ (a.natAbs % m = 0 ∨ b.natAbs % m = 0)
theorem Rough.two (n : Nat) : Rough 2 n := fun d h1 h2 => by omega
end Go.Proofs.YtalahdkhglagpaaGreatDoor.Dnt
