/-
  Plain facts: the product of the symbols over all places is 1. No program.
-/
import Derived.Test.YtalahdkhglagpaaGreatDqc
set_option linter.unusedVariables false
set_option linter.unusedSimpArgs false
namespace Go.Proofs.YtalahdkhglagpaaGreat
open Dnt Dqr
theorem pr_odd {m : Nat} (h : isPr m) : m = 2 ∨ m % 2 = 1 := by
  by_cases h1 : m = 2
  · exact .inl h1
  · have := h.2 2 (by omega) (by have := h.1; omega)
    omega
/-- The places up to a bound. -/
structure PLs (B : Nat) (L : List Int) : Prop where
  nd : L.Nodup
  mem : ∀ x, x ∈ L ↔ x = -1 ∨ x = 2 ∨ ∃ p : Nat, x = p ∧ p ≤ B ∧ isPr p ∧ p % 2 = 1
theorem PLs.ex (B : Nat) : ∃ L, PLs B L := by
  induction B with
  | zero =>
    refine ⟨[-1, 2], by decide, fun x => ?_⟩
    simp only [List.mem_cons, List.not_mem_nil, or_false]
    constructor
    · rintro (h | h)
      · exact .inl h
      · exact .inr (.inl h)
    · rintro (h | h | ⟨p, _, h1, h2, _⟩)
      · exact .inl h
      · exact .inr h
      · have := h2.1; omega
  | succ B ih =>
    obtain ⟨L, h1, h2⟩ := ih
    by_cases hp : isPr (B + 1) ∧ (B + 1) % 2 = 1
    · refine ⟨((B + 1 : Nat) : Int) :: L, List.nodup_cons.2 ⟨fun h => ?_, h1⟩, fun x => ?_⟩
      · rcases (h2 _).1 h with h3 | h3 | ⟨p, h3, h4, _⟩ <;> omega
      · rw [List.mem_cons, h2]
        constructor
        · rintro (h | h | h | ⟨p, h3, h4, h5⟩)
          · exact .inr (.inr ⟨B + 1, h, Nat.le_refl _, hp⟩)
          · exact .inl h
          · exact .inr (.inl h)
          · exact .inr (.inr ⟨p, h3, by omega, h5⟩)
        · rintro (h | h | ⟨p, h3, h4, h5⟩)
          · exact .inr (.inl h)
          · exact .inr (.inr (.inl h))
          · by_cases e : p = B + 1
            · exact .inl (by rw [h3, e])
            · exact .inr (.inr (.inr ⟨p, h3, by omega, h5⟩))
    · refine ⟨L, h1, fun x => ?_⟩
      rw [h2]
      constructor
      · rintro (h | h | ⟨p, h3, h4, h5⟩)
        · exact .inl h
        · exact .inr (.inl h)
        · exact .inr (.inr ⟨p, h3, by omega, h5⟩)
      · rintro (h | h | ⟨p, h3, h4, h5⟩)
        · exact .inl h
        · exact .inr (.inl h)
        · by_cases e : p = B + 1
          · exact absurd (e ▸ h5) hp
          · exact .inr (.inr ⟨p, h3, by omega, h5⟩)
theorem PLs.pla {B : Nat} {L : List Int} (h : PLs B L) {x : Int} (hx : x ∈ L) : Pla x := by
  rcases (h.mem x).1 hx with rfl | rfl | ⟨p, rfl, _, h1, h2⟩
  · exact .real
  · exact .two
  · exact .odd h1 h2
theorem prd_one {f : Int → Int} {l : List Int} (h : ∀ x ∈ l, f x = 1) : prd f l = 1 := by
  induction l with
  | nil => rfl
  | cons y t ih => rw [prd, h y List.mem_cons_self, ih (fun x hx => h x (List.mem_cons_of_mem _ hx))]; rfl
theorem prd_sub {f : Int → Int} : ∀ {l L : List Int}, l.Nodup → L.Nodup → (∀ x ∈ l, x ∈ L) → (∀ x ∈ L, x ∉ l → f x = 1) → prd f L = prd f l
  | [], L, _, _, _, h => prd_one (fun x hx => h x hx (by simp))
  | y :: t, L, h1, h2, h3, h4 => by
    obtain ⟨h5, h6⟩ := List.nodup_cons.1 h1
    rw [prd_perm (List.perm_cons_erase (h3 y List.mem_cons_self)), prd, prd]
    rw [prd_sub h6 (h2.erase y) (fun x hx => (h2.mem_erase_iff).2 ⟨fun e => h5 (e ▸ hx), h3 x (List.mem_cons_of_mem _ hx)⟩) (fun x hx hn => by
      obtain ⟨h7, h8⟩ := (h2.mem_erase_iff).1 hx
      exact h4 x h8 (fun h => (List.mem_cons.1 h).elim h7 hn))]
section
variable {B : Nat} {L : List Int}
theorem P_mul (h : PLs B L) {a b c : Int} (ha : a ≠ 0) (hb : b ≠ 0) (hc : c ≠ 0) : prd (syF a (b * c)) L = prd (syF a b) L * prd (syF a c) L := by
  rw [← prd_mul]
  exact prd_congr (fun x hx => sy_mul (h.pla hx) ha hb hc)
theorem P_symm (h : PLs B L) {a b : Int} (ha : a ≠ 0) (hb : b ≠ 0) : prd (syF a b) L = prd (syF b a) L :=
  prd_congr (fun x hx => sy_symm (h.pla hx) ha hb)
theorem P_neg (h : PLs B L) {a : Int} (ha : a ≠ 0) : prd (syF a (-a)) L = 1 := prd_one (fun x hx => sy_neg (h.pla hx) ha)
theorem P_sq {a b : Int} : prd (syF a b) L * prd (syF a b) L = 1 := by
  rw [← prd_mul]
  exact prd_one (fun x _ => sy_sq)
end
theorem pr_ex : ∀ (m n : Nat), n ≤ m → 2 ≤ n → ∃ p, isPr p ∧ n % p = 0
  | 0, n, h, h2 => by omega
  | m + 1, n, h, h2 => by
    by_cases hp : isPr n
    · exact ⟨n, hp, Nat.mod_self n⟩
    · have : ∃ d, 2 ≤ d ∧ d < n ∧ n % d = 0 := by
        apply Classical.byContradiction
        intro hn
        exact hp ⟨h2, fun d h3 h4 h5 => hn ⟨d, h3, h4, h5⟩⟩
      obtain ⟨d, h3, h4, h5⟩ := this
      obtain ⟨p, h6, h7⟩ := pr_ex m d (by omega) h3
      exact ⟨p, h6, Nat.mod_eq_zero_of_dvd (Nat.dvd_trans (Nat.dvd_of_mod_eq_zero h7) (Nat.dvd_of_mod_eq_zero h5))⟩
/-- What holds of 1, -1 and the primes, and of products, holds. -/
theorem gen {B : Nat} {C : Int → Prop} (h1 : C 1) (hn : C (-1)) (hp : ∀ p : Nat, isPr p → p ≤ B → C p) (hm : ∀ a b : Int, a ≠ 0 → b ≠ 0 → C a → C b → C (a * b)) : ∀ (n : Nat) (a : Int), a.natAbs ≤ n → n ≤ B → a ≠ 0 → C a
  | 0, a, h, _, h0 => by omega
  | n + 1, a, h, hB, h0 => by
    by_cases ha : a.natAbs = 1
    · rcases (show a = 1 ∨ a = -1 by omega) with rfl | rfl
      · exact h1
      · exact hn
    · obtain ⟨p, h2, h3⟩ := pr_ex _ a.natAbs (Nat.le_refl _) (by omega)
      have hd : ((p : Nat) : Int) ∣ a := Int.dvd_of_emod_eq_zero (int_mod_nat.2 h3)
      obtain ⟨c, rfl⟩ := hd
      have hc : c ≠ 0 := fun e => h0 (by rw [e, Int.mul_zero])
      have hp2 := h2.1
      rw [Int.natAbs_mul] at h
      have h4 : (p : Int).natAbs = p := Int.natAbs_natCast p
      rw [h4] at h
      have h5 : 2 * c.natAbs ≤ p * c.natAbs := Nat.mul_le_mul_right _ hp2
      have h6 : p * 1 ≤ p * c.natAbs := Nat.mul_le_mul_left _ (by omega)
      exact hm _ _ (by omega) hc (hp p h2 (by omega)) (gen h1 hn hp hm n c (by omega) (by omega) hc)
theorem vp2_odd {u : Int} (h : ¬ u % 2 = 0) : vpn 2 u = 0 ∧ vpr 2 u = u := vp_of (by omega) ⟨by simp, h⟩ (by omega)
theorem vp_not {p : Nat} (hp : isPr p) {u : Int} (h : ¬ u % (p : Int) = 0) : vpn p u = 0 ∧ vpr p u = u :=
  vp_of (by have := hp.1; omega) ⟨by simp, h⟩ (fun e => h (by rw [e]; rfl))
theorem vp_self {p : Nat} (hp : isPr p) : vpn p p = 1 ∧ vpr p p = 1 :=
  vp_of (by have := hp.1; omega) ⟨by rw [Int.mul_one, Int.pow_succ, Int.pow_zero, Int.one_mul], by have := hp.1; rw [Int.emod_eq_of_lt (by omega) (by omega)]; omega⟩ (by have := hp.1; omega)
theorem at2_odd {a b : Int} (ha : ¬ a % 2 = 0) (hb : ¬ b % 2 = 0) : syF a b 2 = sgF (ep a * ep b) := by
  rw [sy_two (by omega) (by omega), (vp2_odd ha).1, (vp2_odd ha).2, (vp2_odd hb).1, (vp2_odd hb).2]
  simp [sgF_zero]
theorem at2_two {b : Int} (hb : ¬ b % 2 = 0) : syF 2 b 2 = sgF (om b) := by
  have e1 : vpn 2 2 = 1 ∧ vpr 2 2 = 1 := vp_self isPr_two
  rw [sy_two (by omega) (by omega), e1.1, e1.2, (vp2_odd hb).1, (vp2_odd hb).2]
  have e2 : ep 1 = 0 := rfl
  simp [sgF_zero, e2]
theorem atq_self {q : Nat} (hq : isPr q) (ho : q % 2 = 1) {a : Int} (ha : ¬ a % (q : Int) = 0) : syF a q q = lgF a q := by
  rw [sy_odd hq ho, (vp_not hq ha).1, (vp_not hq ha).2, (vp_self hq).1, (vp_self hq).2, sgF_ns, if_neg (by decide)]
  simp [sgF_zero]
theorem ep_sgn {q : Nat} (ho : q % 2 = 1) : ep q % 2 = ((q / 2 : Nat) : Int) % 2 := by
  unfold ep
  by_cases h : (q : Int) % 4 = 1
  · rw [if_pos h]; omega
  · rw [if_neg h]; omega
theorem om_sgn {q : Nat} (ho : q % 2 = 1) : sgF (om q) = sgn (smn id (upto (q / 2))) := by
  rw [← sgF_nat]
  apply sgF_par
  have h := smn_id (q / 2)
  obtain ⟨s, hs⟩ : ∃ s, smn id (upto (q / 2)) = s := ⟨_, rfl⟩
  rw [hs] at h ⊢
  obtain ⟨m, r, hr, e⟩ : ∃ m r, r < 4 ∧ q / 2 = 4 * m + r := ⟨q / 2 / 4, q / 2 % 4, by omega, by omega⟩
  rw [e] at h
  have e2 : (4 * m + r) * (4 * m + r + 1) = 16 * (m * m) + 8 * (m * r) + 4 * m + r * r + r := by
    have e1 : 4 * m * (4 * m) = 16 * (m * m) := by rw [Nat.mul_assoc, Nat.mul_left_comm m 4 m]; omega
    have e3 : r * (4 * m) = 4 * (m * r) := by rw [Nat.mul_left_comm, Nat.mul_comm r]
    rw [Nat.mul_add, Nat.mul_one, Nat.add_mul, Nat.mul_add, Nat.mul_add, e1, e3, Nat.mul_assoc 4 m r]
    omega
  rw [e2] at h
  obtain ⟨k, hk⟩ : ∃ k, m * m = k := ⟨_, rfl⟩
  rw [hk] at h
  unfold om
  rcases (show r = 0 ∨ r = 1 ∨ r = 2 ∨ r = 3 by omega) with rfl | rfl | rfl | rfl
  · rw [if_pos (by omega)]; omega
  · rw [if_neg (by omega)]; omega
  · rw [if_neg (by omega)]; omega
  · rw [if_pos (by omega)]; omega
theorem pr_ndvd {p q : Nat} (hp : isPr p) (hq : isPr q) (hne : p ≠ q) : ¬ (q : Int) % (p : Int) = 0 := not_dvd (by
  rw [Int.natAbs_natCast]
  intro h
  have := Nat.le_of_dvd (by have := hq.1; omega) (Nat.dvd_of_mod_eq_zero h)
  exact hq.2 p hp.1 (by omega) h)
theorem two_ndvd {p : Nat} (hp : isPr p) (hne : p ≠ 2) : ¬ (2 : Int) % (p : Int) = 0 := by
  have h := pr_ndvd hp isPr_two hne
  exact h
theorem prd3 (f : Int → Int) (x y z : Int) : prd f [x, y, z] = f x * (f y * f z) := by simp [prd]
theorem neg_ndvd {p : Nat} (hp : isPr p) : ¬ (-1 : Int) % (p : Int) = 0 := not_dvd (by
  have := hp.1
  rw [show (-1 : Int).natAbs = 1 by rfl, Nat.mod_eq_of_lt (by omega)]
  omega)
section
variable {B : Nat} {L : List Int}
theorem b11 (h : PLs B L) : prd (syF (-1) (-1)) L = 1 := by
  rw [prd_sub (l := [-1, 2]) (by decide) h.nd (fun x hx => by
    rw [h.mem]
    simp only [List.mem_cons, List.not_mem_nil, or_false] at hx
    exact hx.elim .inl (fun h => .inr (.inl h))) (fun x hx hn => by
    rcases (h.mem x).1 hx with rfl | rfl | ⟨p, rfl, _, h1, h2⟩
    · simp at hn
    · simp at hn
    · exact sy_unram h1 h2 (by omega) (by omega) (neg_ndvd h1) (neg_ndvd h1))]
  have e1 : syF (-1) (-1) (-1) = -1 := by rw [syF_real, if_pos (by omega)]
  have e2 : syF (-1) (-1) 2 = -1 := by rw [at2_odd (by omega) (by omega)]; rfl
  simp [prd, e1, e2]
theorem b12 (h : PLs B L) : prd (syF 2 (-1)) L = 1 := by
  rw [prd_sub (l := [-1, 2]) (by decide) h.nd (fun x hx => by
    rw [h.mem]
    simp only [List.mem_cons, List.not_mem_nil, or_false] at hx
    exact hx.elim .inl (fun h => .inr (.inl h))) (fun x hx hn => by
    rcases (h.mem x).1 hx with rfl | rfl | ⟨p, rfl, _, h1, h2⟩
    · simp at hn
    · simp at hn
    · exact sy_unram h1 h2 (by omega) (by omega) (two_ndvd h1 (by omega)) (neg_ndvd h1))]
  have e1 : syF 2 (-1) (-1) = 1 := by rw [syF_real, if_neg (by omega)]
  have e2 : syF 2 (-1) 2 = 1 := by rw [at2_two (by omega)]; rfl
  simp [prd, e1, e2]
theorem three (h : PLs B L) {q : Nat} (hq : isPr q) (ho : q % 2 = 1) (hB : q ≤ B) {a : Int} (ha : a ≠ 0) (hu : ∀ p : Nat, isPr p → p % 2 = 1 → p ≠ q → ¬ a % (p : Int) = 0) : prd (syF a q) L = syF a q (-1) * (syF a q 2 * syF a q q) := by
  rw [← prd3]
  refine prd_sub ?_ h.nd (fun x hx => ?_) (fun x hx hn => ?_)
  · simp only [List.nodup_cons, List.mem_cons, List.not_mem_nil, or_false, List.nodup_nil, not_false_eq_true, and_true]
    omega
  · rw [h.mem]
    simp only [List.mem_cons, List.not_mem_nil, or_false] at hx
    rcases hx with h1 | h1 | h1
    · exact .inl h1
    · exact .inr (.inl h1)
    · exact .inr (.inr ⟨q, h1, hB, hq, ho⟩)
  · rcases (h.mem x).1 hx with rfl | rfl | ⟨p, rfl, _, h1, h2⟩
    · simp at hn
    · simp at hn
    · have hne : p ≠ q := fun e => hn (by rw [e]; simp)
      exact sy_unram h1 h2 ha (by have := hq.1; omega) (hu p h1 h2 hne) (pr_ndvd h1 hq hne)
theorem b1q (h : PLs B L) {q : Nat} (hq : isPr q) (ho : q % 2 = 1) (hB : q ≤ B) : prd (syF (-1) q) L = 1 := by
  rw [three h hq ho hB (by omega) (fun p hp _ _ => neg_ndvd hp), atq_self hq ho (neg_ndvd hq), lg_neg hq ho, at2_odd (by omega) (by omega), syF_real, if_neg (by omega), Int.one_mul]
  rw [show ep (-1) = 1 from rfl, Int.one_mul, sgF_par (ep_sgn ho), sgF_nat, ← sgF_nat, sgF_sq]
theorem b2q (h : PLs B L) {q : Nat} (hq : isPr q) (ho : q % 2 = 1) (hB : q ≤ B) : prd (syF 2 q) L = 1 := by
  have h2 : ¬ (2 : Int) % (q : Int) = 0 := two_ndvd hq (by omega)
  rw [three (a := 2) h hq ho hB (by omega) (fun p hp hpo _ => two_ndvd hp (by omega)), atq_self hq ho h2, lg_two hq ho, at2_two (by omega), syF_real, if_neg (by omega), Int.one_mul, om_sgn ho, ← sgF_nat, sgF_sq]
theorem bqr (h : PLs B L) {q r : Nat} (hq : isPr q) (ho : q % 2 = 1) (hB : q ≤ B) (hr : isPr r) (hro : r % 2 = 1) (hrB : r ≤ B) (hne : q ≠ r) : prd (syF r q) L = 1 := by
  have hq2 := hq.1
  have hr2 := hr.1
  have hval : prd (syF r q) L = prd (syF r q) [-1, 2, (q : Int), (r : Int)] := by
    refine prd_sub ?_ h.nd (fun x hx => ?_) (fun x hx hn => ?_)
    · simp only [List.nodup_cons, List.mem_cons, List.not_mem_nil, or_false, List.nodup_nil, not_false_eq_true, and_true]
      omega
    · rw [h.mem]
      simp only [List.mem_cons, List.not_mem_nil, or_false] at hx
      rcases hx with h1 | h1 | h1 | h1
      · exact .inl h1
      · exact .inr (.inl h1)
      · exact .inr (.inr ⟨q, h1, hB, hq, ho⟩)
      · exact .inr (.inr ⟨r, h1, hrB, hr, hro⟩)
    · rcases (h.mem x).1 hx with rfl | rfl | ⟨p, rfl, _, h1, h2⟩
      · simp at hn
      · simp at hn
      · have hne1 : p ≠ q := fun e => hn (by rw [e]; simp)
        have hne2 : p ≠ r := fun e => hn (by rw [e]; simp)
        exact sy_unram h1 h2 (by omega) (by omega) (pr_ndvd h1 hr hne2) (pr_ndvd h1 hq hne1)
  rw [hval]
  simp only [prd, Int.mul_one]
  rw [atq_self hq ho (pr_ndvd hq hr hne), sy_symm (.odd hr hro) (by omega) (by omega), atq_self hr hro (pr_ndvd hr hq (Ne.symm hne)), lg_qr hq hr ho hro hne, at2_odd (by omega) (by omega), syF_real, if_neg (by omega), Int.one_mul, sgF_mpar (ep_sgn ho), Int.mul_comm (ep r), sgF_mpar (ep_sgn hro), ← Int.natCast_mul, sgF_nat, ← sgF_nat, sgF_sq]
/-- With the number itself: by its negative. -/
theorem P_self (h : PLs B L) {a : Int} (ha : a ≠ 0) (h1 : prd (syF a (-1)) L = 1) : prd (syF a a) L = 1 := by
  have h2 := P_neg h ha
  rw [show -a = -1 * a by omega, P_mul h ha (by omega) ha, h1, Int.one_mul] at h2
  exact h2
theorem P_one (h : PLs B L) {a : Int} (ha : a ≠ 0) : prd (syF a 1) L = 1 := by
  have h1 := P_mul h ha (b := 1) (c := 1) (by omega) (by omega)
  rw [P_sq] at h1
  exact h1
/-- The product over the places up to a bound, on primes. -/
theorem prime_prime (h : PLs B L) {p q : Nat} (hp : isPr p) (hpB : p ≤ B) (hq : isPr q) (hqB : q ≤ B) : prd (syF p q) L = 1 := by
  have hp2 := hp.1
  have hq2 := hq.1
  by_cases hne : p = q
  · subst hne
    apply P_self h (by omega)
    rcases pr_odd hp with rfl | ho
    · exact b12 h
    · rw [P_symm h (by omega) (by omega)]
      exact b1q h hp ho hpB
  · rcases pr_odd hp with rfl | ho
    · rcases pr_odd hq with rfl | ho2
      · exact absurd rfl hne
      · exact b2q h hq ho2 hqB
    · rcases pr_odd hq with rfl | ho2
      · rw [P_symm h (by omega) (by omega)]
        exact b2q h hp ho hpB
      · exact bqr h hq ho2 hqB hp ho hpB (Ne.symm hne)
theorem neg_prime (h : PLs B L) {q : Nat} (hq : isPr q) (hqB : q ≤ B) : prd (syF (-1) q) L = 1 := by
  rcases pr_odd hq with rfl | ho
  · rw [P_symm h (by omega) (by omega)]
    exact b12 h
  · exact b1q h hq ho hqB
theorem P_all (h : PLs B L) {a b : Int} (ha : a ≠ 0) (hb : b ≠ 0) (haB : a.natAbs ≤ B) (hbB : b.natAbs ≤ B) : prd (syF a b) L = 1 := by
  have key : ∀ c : Int, c ≠ 0 → prd (syF c (-1)) L = 1 → (∀ q : Nat, isPr q → q ≤ B → prd (syF c q) L = 1) → prd (syF c b) L = 1 := by
    intro c hc h1 h2
    exact gen (B := B) (C := fun b => prd (syF c b) L = 1) (P_one h hc) h1 h2 (fun x y hx hy e1 e2 => by
      show prd (syF c (x * y)) L = 1
      rw [P_mul h hc hx hy, e1, e2]; rfl) B b hbB (Nat.le_refl _) hb
  rw [P_symm h ha hb]
  refine gen (B := B) (C := fun a => prd (syF b a) L = 1) (P_one h hb) ?_ (fun p hp hpB => ?_) (fun x y hx hy e1 e2 => by
    show prd (syF b (x * y)) L = 1
    rw [P_mul h hb hx hy, e1, e2]; rfl) B a haB (Nat.le_refl _) ha
  · show prd (syF b (-1)) L = 1
    rw [P_symm h hb (by omega)]
    exact key (-1) (by omega) (b11 h) (fun q hq hqB => neg_prime h hq hqB)
  · show prd (syF b p) L = 1
    have hp2 := hp.1
    rw [P_symm h hb (by omega)]
    refine key p (by omega) ?_ (fun q hq hqB => prime_prime h hp hpB hq hqB)
    rw [P_symm h (by omega) (by omega)]
    exact neg_prime h hp hpB
end
/-- The product of the symbols over the places of a and b is 1. -/
theorem product {a b : Int} (ha : a ≠ 0) (hb : b ≠ 0) {l : List Int} (hl : Pl a b l) : prd (syF a b) l = 1 := by
  obtain ⟨L, hL⟩ := PLs.ex (a.natAbs + b.natAbs)
  rw [← P_all hL ha hb (by omega) (by omega)]
  symm
  refine prd_sub (hl.up.imp (fun h => by omega)) hL.nd (fun x hx => ?_) (fun x hx hn => ?_)
  · rw [hL.mem]
    rcases (hl.mem x).1 hx with h | h | ⟨m, rfl, h1, h2⟩
    · exact .inl h
    · exact .inr (.inl h)
    · rcases pr_odd h1 with rfl | ho
      · exact .inr (.inl rfl)
      · refine .inr (.inr ⟨m, rfl, ?_, h1, ho⟩)
        rcases h2 with h2 | h2
        · have := Nat.le_of_dvd (by omega) (Nat.dvd_of_mod_eq_zero h2)
          omega
        · have := Nat.le_of_dvd (by omega) (Nat.dvd_of_mod_eq_zero h2)
          omega
  · rcases (hL.mem x).1 hx with rfl | rfl | ⟨p, rfl, _, h1, h2⟩
    · exact absurd ((hl.mem _).2 (.inl rfl)) hn
    · exact absurd ((hl.mem _).2 (.inr (.inl rfl))) hn
    · exact sy_unram h1 h2 ha hb (not_dvd (fun h => hn ((hl.mem _).2 (.inr (.inr ⟨p, rfl, h1, .inl h⟩))))) (not_dvd (fun h => hn ((hl.mem _).2 (.inr (.inr ⟨p, rfl, h1, .inr h⟩)))))
end Go.Proofs.YtalahdkhglagpaaGreat
