/-
  Texts of the proof, merged by program: Fg Fi Fka Fkb Fkc Fkd Fl Bas.
-/
import Derived.Test.YtfhhnfpapgfnmaaGreatV7
import Derived.Test.YtfhhnfpapgfnmaaGreatV3
import Derived.Test.YtfhhnfpapgfnmaaGreatProg
import Derived.Deep.LoopGhost
import Derived.Deep.DeepCutAuto
import Derived.Deep.DeepMust
import Derived.Deep.DeepFit
import Derived.Deep.RegionHeld3
import Derived.Deep.RegionWith
import Derived.Deep.QuietTactic
import Derived.BigQuiet
import Derived.Deep.Upon
set_option linter.unusedVariables false
set_option linter.unusedSectionVars false
set_option linter.unusedSimpArgs false
namespace Go.Proofs.YtfhhnfpapgfnmaaGreat
namespace FFld
/-! Numbers as polynomials: their digits to the base p are the coefficients. -/
def dig (p a i : Nat) : Nat := a / p ^ i % p
theorem dig_zero (p a : Nat) : dig p a 0 = a % p := by simp [dig]
theorem dig_succ (p a i : Nat) : dig p a (i + 1) = dig p (a / p) i := by
  unfold dig
  rw [Nat.pow_succ', Nat.div_div_eq_div_mul]
theorem dig_lt {p : Nat} (hp : 0 < p) (a i : Nat) : dig p a i < p := Nat.mod_lt _ hp
theorem dig_mod (p a i : Nat) : dig p a i % p = dig p a i := Nat.mod_mod _ _
theorem dig_big {p a i : Nat} (h : a < p ^ i) : dig p a i = 0 := by
  unfold dig
  rw [Nat.div_eq_of_lt h, Nat.zero_mod]
theorem dig_of_zero (p i : Nat) : dig p 0 i = 0 := by simp [dig]
theorem div_lt_pow {p k a : Nat} (hp : 0 < p) (h : a < p ^ (k + 1)) : a / p < p ^ k := by
  rw [Nat.pow_succ] at h
  exact Nat.div_lt_of_lt_mul (by rw [Nat.mul_comm]; exact h)
theorem dig_ext {p : Nat} (hp : 0 < p) : ∀ (k a b : Nat), a < p ^ k → b < p ^ k → (∀ i, i < k → dig p a i = dig p b i) → a = b := by
  intro k
  induction k with
  | zero => intro a b ha hb _; simp at ha hb; omega
  | succ k ih =>
    intro a b ha hb h
    have h0 := h 0 (by omega)
    rw [dig_zero, dig_zero] at h0
    have h1 := ih (a / p) (b / p) (div_lt_pow hp ha) (div_lt_pow hp hb) (fun i hi => by rw [← dig_succ, ← dig_succ]; exact h (i + 1) (by omega))
    rw [← Nat.div_add_mod a p, ← Nat.div_add_mod b p, h0, h1]
/-- The number with digits f. -/
def ofd (p : Nat) (f : Nat → Nat) : Nat → Nat
  | 0 => 0
  | k + 1 => f 0 + p * ofd p (fun i => f (i + 1)) k
theorem ofd_lt {p : Nat} (hp : 0 < p) : ∀ (k : Nat) (f : Nat → Nat), (∀ i, f i < p) → ofd p f k < p ^ k := by
  intro k
  induction k with
  | zero => intro f _; simp [ofd]
  | succ k ih =>
    intro f h
    have h1 := ih (fun i => f (i + 1)) (fun i => h (i + 1))
    have h0 := h 0
    have h2 : p * (ofd p (fun i => f (i + 1)) k + 1) ≤ p * p ^ k := Nat.mul_le_mul_left p h1
    rw [Nat.mul_succ] at h2
    rw [Nat.pow_succ']
    simp only [ofd]
    omega
theorem dig_ofd {p : Nat} : ∀ (k : Nat) (f : Nat → Nat) (i : Nat), (∀ i, f i < p) → i < k → dig p (ofd p f k) i = f i := by
  intro k
  induction k with
  | zero => intro f i _ h; omega
  | succ k ih =>
    intro f i h hi
    have hp : 0 < p := Nat.lt_of_le_of_lt (Nat.zero_le _) (h 0)
    cases i with
    | zero => rw [dig_zero]; simp only [ofd]; rw [Nat.add_mul_mod_self_left]; exact Nat.mod_eq_of_lt (h 0)
    | succ i =>
      rw [dig_succ]
      have e : ofd p f (k + 1) / p = ofd p (fun i => f (i + 1)) k := by
        simp only [ofd]
        rw [Nat.add_mul_div_left _ _ hp, Nat.div_eq_of_lt (h 0), Nat.zero_add]
      rw [e, ih (fun i => f (i + 1)) i (fun i => h (i + 1)) (by omega)]
theorem ofd_congr {p : Nat} : ∀ (k : Nat) {f g : Nat → Nat}, (∀ i, i < k → f i = g i) → ofd p f k = ofd p g k := by
  intro k
  induction k with
  | zero => intro f g _; rfl
  | succ k ih => intro f g h; simp only [ofd]; rw [h 0 (by omega), ih (fun i hi => h (i + 1) (by omega))]
theorem ofd_dig {p : Nat} (hp : 0 < p) (k a : Nat) (h : a < p ^ k) : ofd p (dig p a) k = a :=
  dig_ext hp k _ _ (ofd_lt hp k _ fun i => dig_lt hp a i) h fun i hi => dig_ofd k _ i (fun i => dig_lt hp a i) hi
/-! Polynomials modulo one: the number m = p^k + .. has the digits of the modulus. -/
section
variable (p k m : Nat)
def padd (a b : Nat) : Nat := ofd p (fun i => (dig p a i + dig p b i) % p) k
def pscl (c a : Nat) : Nat := ofd p (fun i => (dig p a i * c) % p) k
def prv (a : Nat) : Nat → Nat
  | 0 => 0
  | j + 1 => dig p a j
/-- a times x. -/
def pshf (a : Nat) : Nat := ofd p (fun i => (prv p a i + dig p a (k - 1) * (p - dig p m i)) % p) k
/-- a times the polynomial of the digits of b. -/
def pmul (a : Nat) : Nat → Nat → Nat
  | 0, _ => 0
  | n + 1, b => padd p k (pscl p k (b % p) a) (pshf p k m (pmul a n (b / p)))
end
structure PK (p k m : Nat) : Prop where
  p2 : 2 ≤ p
  k1 : 1 ≤ k
section
variable {p k m : Nat} (h : PK p k m)
theorem PK.p0 (h : PK p k m) : 0 < p := by have := h.p2; omega
theorem PK.one_lt (h : PK p k m) : 1 < p ^ k := Nat.one_lt_pow (by have := h.k1; omega) h.p2
include h
theorem dig_padd (a b i : Nat) (hi : i < k) : dig p (padd p k a b) i = (dig p a i + dig p b i) % p := dig_ofd k _ i (fun _ => Nat.mod_lt _ h.p0) hi
theorem dig_pscl (c a i : Nat) (hi : i < k) : dig p (pscl p k c a) i = (dig p a i * c) % p := dig_ofd k _ i (fun _ => Nat.mod_lt _ h.p0) hi
theorem dig_pshf (a i : Nat) (hi : i < k) : dig p (pshf p k m a) i = (prv p a i + dig p a (k - 1) * (p - dig p m i)) % p := dig_ofd k _ i (fun _ => Nat.mod_lt _ h.p0) hi
theorem padd_lt (a b : Nat) : padd p k a b < p ^ k := ofd_lt h.p0 k _ fun _ => Nat.mod_lt _ h.p0
theorem pscl_lt (c a : Nat) : pscl p k c a < p ^ k := ofd_lt h.p0 k _ fun _ => Nat.mod_lt _ h.p0
theorem pshf_lt (a : Nat) : pshf p k m a < p ^ k := ofd_lt h.p0 k _ fun _ => Nat.mod_lt _ h.p0
theorem pmul_lt (a n b : Nat) : pmul p k m a n b < p ^ k := by
  cases n with
  | zero => exact Nat.pow_pos h.p0
  | succ n => exact padd_lt h _ _
theorem padd_comm (a b : Nat) : padd p k a b = padd p k b a := ofd_congr k fun i _ => by rw [Nat.add_comm]
theorem padd_assoc (a b c : Nat) : padd p k (padd p k a b) c = padd p k a (padd p k b c) := by
  refine dig_ext h.p0 k _ _ (padd_lt h _ _) (padd_lt h _ _) fun i hi => ?_
  rw [dig_padd h _ _ _ hi, dig_padd h _ _ _ hi, dig_padd h _ _ _ hi, dig_padd h _ _ _ hi, Nat.mod_add_mod, Nat.add_mod_mod, Nat.add_assoc]
theorem padd_zero (a : Nat) (ha : a < p ^ k) : padd p k a 0 = a := by
  refine dig_ext h.p0 k _ _ (padd_lt h _ _) ha fun i hi => ?_
  rw [dig_padd h _ _ _ hi, dig_of_zero, Nat.add_zero, dig_mod]
theorem padd4 (a b c d : Nat) : padd p k (padd p k a b) (padd p k c d) = padd p k (padd p k a c) (padd p k b d) := by
  rw [padd_assoc h, ← padd_assoc h b c d, padd_comm h b c, padd_assoc h c b d, ← padd_assoc h]
theorem pscl_zero (a : Nat) : pscl p k 0 a = 0 := by
  refine dig_ext h.p0 k _ _ (pscl_lt h _ _) (Nat.pow_pos h.p0) fun i hi => ?_
  rw [dig_pscl h _ _ _ hi, dig_of_zero, Nat.mul_zero, Nat.zero_mod]
theorem pscl_add (c a b : Nat) : pscl p k c (padd p k a b) = padd p k (pscl p k c a) (pscl p k c b) := by
  refine dig_ext h.p0 k _ _ (pscl_lt h _ _) (padd_lt h _ _) fun i hi => ?_
  rw [dig_pscl h _ _ _ hi, dig_padd h _ _ _ hi, dig_padd h _ _ _ hi, dig_pscl h _ _ _ hi, dig_pscl h _ _ _ hi, ← Nat.add_mod, ← Nat.add_mul, Nat.mod_mul_mod]
theorem pscl_comm (c d a : Nat) : pscl p k c (pscl p k d a) = pscl p k d (pscl p k c a) := by
  refine dig_ext h.p0 k _ _ (pscl_lt h _ _) (pscl_lt h _ _) fun i hi => ?_
  rw [dig_pscl h _ _ _ hi, dig_pscl h _ _ _ hi, dig_pscl h _ _ _ hi, dig_pscl h _ _ _ hi, Nat.mod_mul_mod, Nat.mod_mul_mod, Nat.mul_right_comm]
theorem pshf_add (a b : Nat) : pshf p k m (padd p k a b) = padd p k (pshf p k m a) (pshf p k m b) := by
  refine dig_ext h.p0 k _ _ (pshf_lt h _) (padd_lt h _ _) fun i hi => ?_
  have hk := h.k1
  rw [dig_pshf h _ _ hi, dig_padd h _ _ _ hi, dig_pshf h _ _ hi, dig_pshf h _ _ hi, dig_padd h _ _ _ (by omega), ← Nat.add_mod]
  generalize p - dig p m i = t
  generalize dig p a (k - 1) = x
  generalize dig p b (k - 1) = y
  cases i with
  | zero => simp only [prv, Nat.zero_add]; rw [Nat.mod_mul_mod, Nat.add_mul]
  | succ j =>
    simp only [prv]
    rw [dig_padd h _ _ _ (by omega)]
    generalize dig p a j = u
    generalize dig p b j = v
    rw [Nat.mod_add_mod, ← Nat.add_mod_mod, Nat.mod_mul_mod, Nat.add_mod_mod, Nat.add_mul]
    congr 1
    omega
theorem pshf_scl (c a : Nat) : pshf p k m (pscl p k c a) = pscl p k c (pshf p k m a) := by
  refine dig_ext h.p0 k _ _ (pshf_lt h _) (pscl_lt h _ _) fun i hi => ?_
  have hk := h.k1
  rw [dig_pshf h _ _ hi, dig_pscl h _ _ _ hi, dig_pshf h _ _ hi, dig_pscl h _ _ _ (by omega), Nat.mod_mul_mod]
  generalize p - dig p m i = t
  generalize dig p a (k - 1) = x
  cases i with
  | zero => simp only [prv, Nat.zero_add]; rw [Nat.mod_mul_mod, Nat.mul_right_comm]
  | succ j =>
    simp only [prv]
    rw [dig_pscl h _ _ _ (by omega)]
    generalize dig p a j = u
    rw [Nat.mod_add_mod, ← Nat.add_mod_mod, Nat.mod_mul_mod, Nat.add_mod_mod, Nat.add_mul, Nat.mul_right_comm]
theorem pshf_zero : pshf p k m 0 = 0 := by
  refine dig_ext h.p0 k _ _ (pshf_lt h _) (Nat.pow_pos h.p0) fun i hi => ?_
  rw [dig_pshf h _ _ hi, dig_of_zero, dig_of_zero, Nat.zero_mul, Nat.add_zero]
  cases i with
  | zero => exact Nat.zero_mod _
  | succ j => simp only [prv]; rw [dig_of_zero, Nat.zero_mod]
/-- Below the degree: the shift is a shift. -/
theorem pshf_low (a : Nat) (ha : a < p ^ (k - 1)) : pshf p k m a = p * a := by
  have hk := h.k1
  have hlt : p * a < p ^ k := by
    have : p * a < p * p ^ (k - 1) := (Nat.mul_lt_mul_left h.p0).2 ha
    rwa [← Nat.pow_succ', show (k - 1).succ = k from by omega] at this
  refine dig_ext h.p0 k _ _ (pshf_lt h _) hlt fun i hi => ?_
  rw [dig_pshf h _ _ hi, dig_big ha, Nat.zero_mul, Nat.add_zero]
  cases i with
  | zero => rw [dig_zero]; simp [prv]
  | succ j => rw [dig_succ, Nat.mul_div_cancel_left _ h.p0]; exact dig_mod _ _ _
theorem pmul_add (a b n c : Nat) : pmul p k m (padd p k a b) n c = padd p k (pmul p k m a n c) (pmul p k m b n c) := by
  induction n generalizing c with
  | zero => simp only [pmul]; rw [padd_zero h _ (Nat.pow_pos h.p0)]
  | succ n ih => simp only [pmul]; rw [ih, pscl_add h, pshf_add h, padd4 h]
theorem pmul_scl (d a n c : Nat) : pmul p k m (pscl p k d a) n c = pscl p k d (pmul p k m a n c) := by
  induction n generalizing c with
  | zero =>
    simp only [pmul]
    refine dig_ext h.p0 k _ _ (Nat.pow_pos h.p0) (pscl_lt h _ _) fun i hi => ?_
    rw [dig_pscl h _ _ _ hi, dig_of_zero, Nat.zero_mul, Nat.zero_mod]
  | succ n ih => simp only [pmul]; rw [ih, pscl_comm h, pshf_scl h, pscl_add h]
theorem pmul_shf (a n c : Nat) : pmul p k m (pshf p k m a) n c = pshf p k m (pmul p k m a n c) := by
  induction n generalizing c with
  | zero => simp only [pmul]; rw [pshf_zero h]
  | succ n ih => simp only [pmul]; rw [ih, pshf_add h, pshf_scl h]
theorem pmul_pmul (a n b i c : Nat) : pmul p k m (pmul p k m a i c) n b = pmul p k m (pmul p k m a n b) i c := by
  induction n generalizing b with
  | zero =>
    simp only [pmul]
    induction i generalizing c with
    | zero => rfl
    | succ i ih => simp only [pmul]; rw [← ih, pshf_zero h, padd_zero h _ (pscl_lt h _ _)]; refine dig_ext h.p0 k _ _ (Nat.pow_pos h.p0) (pscl_lt h _ _) fun j hj => ?_; rw [dig_pscl h _ _ _ hj, dig_of_zero, Nat.zero_mul, Nat.zero_mod]
  | succ n ih => simp only [pmul]; rw [ih, pmul_add h, pmul_scl h, pmul_shf h]
theorem pmul_one (n : Nat) (hn : n ≤ k) : ∀ b, b < p ^ n → pmul p k m 1 n b = b := by
  have hk := h.k1
  induction n with
  | zero => intro b hb; simp at hb; subst hb; rfl
  | succ n ih =>
    intro b hb
    have hb' := div_lt_pow h.p0 hb
    simp only [pmul]
    rw [ih (by omega) _ hb', pshf_low h _ (Nat.lt_of_lt_of_le hb' (Nat.pow_le_pow_right h.p0 (by omega)))]
    have hbk : b < p ^ k := Nat.lt_of_lt_of_le hb (Nat.pow_le_pow_right h.p0 hn)
    refine dig_ext h.p0 k _ _ (padd_lt h _ _) hbk fun i hi => ?_
    rw [dig_padd h _ _ _ hi, dig_pscl h _ _ _ hi]
    have hp2 := h.p2
    cases i with
    | zero => simp only [dig_zero]; rw [Nat.mod_eq_of_lt (show 1 < p by omega), Nat.one_mul, Nat.mul_mod_right, Nat.add_zero, Nat.mod_mod, Nat.mod_mod]
    | succ i => rw [dig_succ p 1, Nat.div_eq_of_lt (show 1 < p by omega), dig_of_zero, Nat.zero_mul, Nat.zero_mod, Nat.zero_add, dig_succ p (p * _), Nat.mul_div_cancel_left _ h.p0, dig_succ p b, dig_mod]
theorem pmul_comm (a b : Nat) (ha : a < p ^ k) (hb : b < p ^ k) : pmul p k m a k b = pmul p k m b k a := by
  conv => lhs; rw [← pmul_one h k (Nat.le_refl _) a ha]
  rw [pmul_pmul h, pmul_one h k (Nat.le_refl _) b hb]
theorem pmul_assoc (a b c : Nat) (ha : a < p ^ k) (hb : b < p ^ k) (hc : c < p ^ k) : pmul p k m (pmul p k m a k b) k c = pmul p k m a k (pmul p k m b k c) := by
  rw [pmul_comm h a b ha hb, pmul_pmul h, pmul_comm h _ a (pmul_lt h _ _ _) ha]
theorem pmul_by_one (a : Nat) (ha : a < p ^ k) : pmul p k m a k 1 = a := by
  rw [pmul_comm h a 1 ha h.one_lt, pmul_one h k (Nat.le_refl _) a ha]
theorem padd_neg (a : Nat) : padd p k a (pscl p k (p - 1) a) = 0 := by
  refine dig_ext h.p0 k _ _ (padd_lt h _ _) (Nat.pow_pos h.p0) fun i hi => ?_
  rw [dig_padd h _ _ _ hi, dig_pscl h _ _ _ hi, dig_of_zero, Nat.add_mod_mod]
  have hp2 := h.p2
  have : dig p a i + dig p a i * (p - 1) = dig p a i * p := by
    obtain ⟨r, rfl⟩ : ∃ r, p = r + 1 := ⟨p - 1, by omega⟩
    simp only [Nat.add_sub_cancel]
    rw [Nat.mul_succ, Nat.add_comm]
  rw [this, Nat.mul_mod_left]
theorem pmul_zero_right (a n : Nat) : pmul p k m a n 0 = 0 := by
  induction n with
  | zero => rfl
  | succ n ih => simp only [pmul, Nat.zero_mod, Nat.zero_div]; rw [ih, pshf_zero h, pscl_zero h, padd_zero h _ (Nat.pow_pos h.p0)]
end
/-! Lists of coefficients, evaluated at x modulo a polynomial. -/
/-- The number with these digits. -/
def num (p : Nat) : List Nat → Nat
  | [] => 0
  | c :: l => c + p * num p l
theorem num_lt {p : Nat} (hp : 0 < p) : ∀ (l : List Nat), (∀ c ∈ l, c < p) → num p l < p ^ l.length := by
  intro l
  induction l with
  | nil => intro _; simp [num]
  | cons c l ih =>
    intro h
    have h1 := ih (fun d hd => h d (List.mem_cons_of_mem _ hd))
    have h0 := h c List.mem_cons_self
    have h2 : p * (num p l + 1) ≤ p * p ^ l.length := Nat.mul_le_mul_left p h1
    rw [Nat.mul_succ] at h2
    rw [List.length_cons, Nat.pow_succ']
    simp only [num]
    omega
section
variable (p k m : Nat)
def evl (a : Nat) : List Nat → Nat
  | [] => 0
  | c :: l => padd p k (pscl p k c a) (pshf p k m (evl a l))
/-- a times x ^ j. -/
def shn (a : Nat) : Nat → Nat
  | 0 => a
  | j + 1 => pshf p k m (shn a j)
end
section
variable {p k m : Nat} (h : PK p k m)
include h
theorem evl_lt (a : Nat) (l : List Nat) : evl p k m a l < p ^ k := by
  cases l with
  | nil => exact Nat.pow_pos h.p0
  | cons c l => exact padd_lt h _ _
theorem shn_lt {a : Nat} (ha : a < p ^ k) (j : Nat) : shn p k m a j < p ^ k := by
  cases j with
  | zero => exact ha
  | succ j => exact pshf_lt h _
theorem shn_add (a b j : Nat) : shn p k m (padd p k a b) j = padd p k (shn p k m a j) (shn p k m b j) := by
  induction j with
  | zero => rfl
  | succ j ih => simp only [shn]; rw [ih, pshf_add h]
theorem shn_scl (c a j : Nat) : shn p k m (pscl p k c a) j = pscl p k c (shn p k m a j) := by
  induction j with
  | zero => rfl
  | succ j ih => simp only [shn]; rw [ih, pshf_scl h]
theorem shn_zero (j : Nat) : shn p k m 0 j = 0 := by
  induction j with
  | zero => rfl
  | succ j ih => simp only [shn]; rw [ih, pshf_zero h]
theorem shn_shn (a i j : Nat) : shn p k m (shn p k m a i) j = shn p k m a (i + j) := by
  induction j with
  | zero => rfl
  | succ j ih => rw [← Nat.add_assoc]; simp only [shn]; rw [ih]
theorem pscl_mod (c a : Nat) : pscl p k (c % p) a = pscl p k c a := by
  refine dig_ext h.p0 k _ _ (pscl_lt h _ _) (pscl_lt h _ _) fun i hi => ?_
  rw [dig_pscl h _ _ _ hi, dig_pscl h _ _ _ hi, Nat.mul_mod_mod]
theorem pscl_sum (c d a : Nat) : pscl p k (c + d) a = padd p k (pscl p k c a) (pscl p k d a) := by
  refine dig_ext h.p0 k _ _ (pscl_lt h _ _) (padd_lt h _ _) fun i hi => ?_
  rw [dig_padd h _ _ _ hi, dig_pscl h _ _ _ hi, dig_pscl h _ _ _ hi, dig_pscl h _ _ _ hi, ← Nat.add_mod, Nat.mul_add]
theorem pscl_pscl (c d a : Nat) : pscl p k c (pscl p k d a) = pscl p k (c * d) a := by
  refine dig_ext h.p0 k _ _ (pscl_lt h _ _) (pscl_lt h _ _) fun i hi => ?_
  rw [dig_pscl h _ _ _ hi, dig_pscl h _ _ _ hi, dig_pscl h _ _ _ hi, Nat.mod_mul_mod, Nat.mul_assoc, Nat.mul_comm d c]
theorem pscl_nil (c : Nat) : pscl p k c 0 = 0 := by
  refine dig_ext h.p0 k _ _ (pscl_lt h _ _) (Nat.pow_pos h.p0) fun i hi => ?_
  rw [dig_pscl h _ _ _ hi, dig_of_zero, Nat.zero_mul, Nat.zero_mod]
theorem pscl_one (a : Nat) (ha : a < p ^ k) : pscl p k 1 a = a := by
  refine dig_ext h.p0 k _ _ (pscl_lt h _ _) ha fun i hi => ?_
  rw [dig_pscl h _ _ _ hi, Nat.mul_one, dig_mod]
theorem padd_nil (a : Nat) (ha : a < p ^ k) : padd p k 0 a = a := by rw [padd_comm h, padd_zero h _ ha]
/-- One coefficient grows. -/
theorem evl_set (a c : Nat) : ∀ (l : List Nat) (j : Nat), j < l.length → evl p k m a (l.set j ((l[j]?.getD 0 + c) % p)) = padd p k (evl p k m a l) (pscl p k c (shn p k m a j)) := by
  intro l
  induction l with
  | nil => intro j hj; simp at hj
  | cons d l ih =>
    intro j hj
    cases j with
    | zero =>
      simp only [List.set_cons_zero, evl, List.getElem?_cons_zero, Option.getD_some, shn]
      rw [pscl_mod h, pscl_sum h, padd_assoc h, padd_comm h (pscl p k c a), ← padd_assoc h]
    | succ j =>
      simp only [List.set_cons_succ, evl, List.getElem?_cons_succ, shn]
      rw [ih j (by simpa using hj), pshf_add h, pshf_scl h, ← padd_assoc h]
theorem evl_snoc (a c : Nat) (l : List Nat) : evl p k m a (l ++ [c]) = padd p k (evl p k m a l) (pscl p k c (shn p k m a l.length)) := by
  induction l with
  | nil =>
    simp only [List.nil_append, evl, List.length_nil, shn]
    rw [pshf_zero h, padd_zero h _ (pscl_lt h _ _), padd_nil h _ (pscl_lt h _ _)]
  | cons d l ih =>
    simp only [List.cons_append, evl, List.length_cons, shn]
    rw [ih, pshf_add h, pshf_scl h, padd_assoc h]
theorem evl_trim (a : Nat) (l : List Nat) : evl p k m a (l ++ [0]) = evl p k m a l := by
  rw [evl_snoc h, pscl_zero h, padd_zero h _ (evl_lt h _ _)]
theorem evl_pmul (a : Nat) : ∀ (l : List Nat) (n : Nat), (∀ c ∈ l, c < p) → l.length ≤ n → pmul p k m a n (num p l) = evl p k m a l := by
  intro l
  induction l with
  | nil => intro n _ _; simp only [num, evl]; exact pmul_zero_right h a n
  | cons c l ih =>
    intro n hc hn
    cases n with
    | zero => simp at hn
    | succ n =>
      have h0 := hc c List.mem_cons_self
      simp only [num, pmul, evl]
      rw [Nat.add_mul_mod_self_left, Nat.mod_eq_of_lt h0, Nat.add_mul_div_left _ _ h.p0, Nat.div_eq_of_lt h0, Nat.zero_add, ih n (fun d hd => hc d (List.mem_cons_of_mem _ hd)) (by simpa using hn)]
/-- A list as long as the degree is its own value at x. -/
theorem evl_one (l : List Nat) (hc : ∀ c ∈ l, c < p) (hl : l.length ≤ k) : evl p k m 1 l = num p l := by
  rw [← evl_pmul h 1 l k hc hl]
  exact pmul_one h k (Nat.le_refl _) _ (Nat.lt_of_lt_of_le (num_lt h.p0 l hc) (Nat.pow_le_pow_right h.p0 hl))
theorem shn_one (j : Nat) (hj : j < k) : shn p k m 1 j = p ^ j := by
  induction j with
  | zero => rfl
  | succ j ih =>
    simp only [shn]
    rw [ih (by omega), pshf_low h _ (Nat.pow_lt_pow_right h.p2 (by omega)), Nat.pow_succ']
/-- The modulus is 0 at x. -/
theorem evl_modulus (l : List Nat) (hc : ∀ c ∈ l, c < p) (hl : l.length = k) (hm : m = num p (l ++ [1])) : evl p k m 1 (l ++ [1]) = 0 := by
  have hk := h.k1
  have hp2 := h.p2
  rw [evl_snoc h, evl_one h l hc (by omega), hl, pscl_one h _ (shn_lt h h.one_lt _)]
  obtain ⟨j, rfl⟩ : ∃ j, k = j + 1 := ⟨k - 1, by omega⟩
  simp only [shn]
  rw [shn_one h j (by omega)]
  have happ : ∀ l : List Nat, num p (l ++ [1]) = num p l + p ^ l.length := by
    intro l
    induction l with
    | nil => simp [num]
    | cons c l ih => simp only [List.cons_append, num, ih, List.length_cons, Nat.pow_succ', Nat.mul_add]; omega
  rw [happ, hl] at hm
  refine dig_ext h.p0 (j + 1) _ _ (padd_lt h _ _) (Nat.pow_pos h.p0) fun i hi => ?_
  rw [dig_padd h _ _ _ hi, dig_pshf h _ _ hi, dig_of_zero]
  have hprv : prv p (p ^ j) i = 0 := by
    cases i with
    | zero => rfl
    | succ i =>
      simp only [prv]
      unfold dig
      rw [Nat.pow_div (by omega) h.p0]
      obtain ⟨r, hr⟩ : ∃ r, j - i = r + 1 := ⟨j - i - 1, by omega⟩
      rw [hr, Nat.pow_succ, Nat.mul_mod_left]
  have htop : dig p (p ^ j) (j + 1 - 1) = 1 := by
    unfold dig
    rw [show j + 1 - 1 = j from rfl, Nat.div_self (Nat.pow_pos h.p0), Nat.mod_eq_of_lt hp2]
  have hdm : dig p m i = dig p (num p l) i := by
    rw [hm]
    unfold dig
    obtain ⟨r, hr⟩ : ∃ r, j + 1 = i + (r + 1) := ⟨j - i, by omega⟩
    rw [hr, Nat.pow_add, Nat.add_mul_div_left _ _ (Nat.pow_pos h.p0), Nat.pow_succ', Nat.add_mul_mod_self_left]
  rw [hprv, htop, hdm, Nat.zero_add, Nat.one_mul, Nat.add_mod_mod]
  have := dig_lt h.p0 (num p l) i
  rw [show dig p (num p l) i + (p - dig p (num p l) i) = p from by omega, Nat.mod_self]
theorem take_snoc (l : List Nat) (j : Nat) (hj : j < l.length) : l.take (j + 1) = l.take j ++ [l[j]?.getD 0] := by
  rw [List.take_add_one]
  simp [hj]
/-- One step of a row: what is added to the list is c times the beginning of y, moved by i. -/
theorem evl_row (a c i : Nat) (x y : List Nat) (E : Nat) (j : Nat) (hj : j < y.length) (hx : i + j < x.length) (he : evl p k m a x = padd p k E (pscl p k c (shn p k m (evl p k m a (y.take j)) i))) :
    evl p k m a (x.set (i + j) ((x[i + j]?.getD 0 + c * y[j]?.getD 0) % p)) = padd p k E (pscl p k c (shn p k m (evl p k m a (y.take (j + 1))) i)) := by
  rw [evl_set h a _ x _ hx, he, take_snoc h y j hj, evl_snoc h, shn_add h, shn_scl h, shn_shn h, pscl_add h, pscl_pscl h, padd_assoc h]
  congr 3
  rw [List.length_take, Nat.min_eq_left (by omega), Nat.add_comm]
end
end FFld
end Go.Proofs.YtfhhnfpapgfnmaaGreat

set_option linter.unusedVariables false
set_option linter.unusedSectionVars false
set_option linter.unusedSimpArgs false
namespace Go.Proofs.YtfhhnfpapgfnmaaGreat
namespace FFld
/-! The ring of the numbers below p^k; where an element has all powers, there are no divisors of 0. -/
structure Rng (α : Type) where
  add : α → α → α
  mul : α → α → α
  zero : α
  one : α
  neg : α → α
  add_assoc : ∀ a b c, add (add a b) c = add a (add b c)
  add_comm : ∀ a b, add a b = add b a
  add_zero : ∀ a, add a zero = a
  add_neg : ∀ a, add a (neg a) = zero
  mul_assoc : ∀ a b c, mul (mul a b) c = mul a (mul b c)
  mul_comm : ∀ a b, mul a b = mul b a
  mul_one : ∀ a, mul a one = a
  mul_add : ∀ a b c, mul a (add b c) = add (mul a b) (mul a c)
  one_ne : one ≠ zero
namespace Rng
variable {α : Type} (F : Rng α)
def dom (h : ∀ a b, F.mul a b = F.zero → a = F.zero ∨ b = F.zero) : Dom α where
  add := F.add
  mul := F.mul
  zero := F.zero
  one := F.one
  neg := F.neg
  add_assoc := F.add_assoc
  add_comm := F.add_comm
  add_zero := F.add_zero
  add_neg := F.add_neg
  mul_assoc := F.mul_assoc
  mul_comm := F.mul_comm
  mul_one := F.mul_one
  mul_add := F.mul_add
  nzd := h
  one_ne := F.one_ne
theorem one_mul (a : α) : F.mul F.one a = a := by rw [F.mul_comm, F.mul_one]
theorem mul_zero (a : α) : F.mul a F.zero = F.zero := by
  have h : F.add (F.mul a F.zero) (F.mul a F.zero) = F.add (F.mul a F.zero) F.zero := by
    rw [← F.mul_add, F.add_zero, F.add_zero]
  have h1 : F.add (F.neg (F.mul a F.zero)) (F.add (F.mul a F.zero) (F.mul a F.zero)) = F.add (F.neg (F.mul a F.zero)) (F.add (F.mul a F.zero) F.zero) := by rw [h]
  rw [← F.add_assoc, ← F.add_assoc, F.add_comm (F.neg _) (F.mul a F.zero), F.add_neg, F.add_zero, F.add_comm, F.add_zero] at h1
  exact h1
def pow (a : α) : Nat → α
  | 0 => F.one
  | n + 1 => F.mul (pow a n) a
theorem pow_add (a : α) (m n : Nat) : F.pow a (m + n) = F.mul (F.pow a m) (F.pow a n) := by
  induction n with
  | zero => simp only [Nat.add_zero, pow]; rw [F.mul_one]
  | succ n ih => rw [← Nat.add_assoc]; simp only [pow]; rw [ih, F.mul_assoc]
theorem one_pow (n : Nat) : F.pow F.one n = F.one := by
  induction n with
  | zero => rfl
  | succ n ih => simp only [pow]; rw [ih, F.mul_one]
theorem pow_mul (a : α) (m n : Nat) : F.pow a (m * n) = F.pow (F.pow a m) n := by
  induction n with
  | zero => rfl
  | succ n ih => rw [Nat.mul_succ, pow_add, ih]; rfl
theorem pow_gcd {a : α} : ∀ (m n : Nat), F.pow a m = F.one → F.pow a n = F.one → F.pow a (Nat.gcd m n) = F.one := by
  intro m
  induction m using Nat.strongRecOn with
  | ind m ih =>
    intro n hm hn
    rcases Nat.eq_zero_or_pos m with h | h
    · subst h; rw [Nat.gcd_zero_left]; exact hn
    · rw [Nat.gcd_rec]
      refine ih _ (Nat.mod_lt _ h) _ ?_ hm
      have e := Nat.div_add_mod n m
      rw [← e, pow_add, pow_mul, hm, one_pow, F.one_mul] at hn
      exact hn
theorem nzd_of_gen {L : List α} (hnd : L.Nodup) (hmem : ∀ a, a ∈ L ↔ a ≠ F.zero) (hL : 0 < L.length) {g : α} (h1 : F.pow g L.length = F.one) (ht : ∀ f, Prime f → f ∣ L.length → F.pow g (L.length / f) ≠ F.one) :
    ∀ a b, F.mul a b = F.zero → a = F.zero ∨ b = F.zero := by
  have hunit : ∀ i, i ≤ L.length → F.mul (F.pow g i) (F.pow g (L.length - i)) = F.one := fun i hi => by rw [← pow_add, show i + (L.length - i) = L.length from by omega, h1]
  have hne : ∀ i, i ≤ L.length → F.pow g i ≠ F.zero := fun i hi h => by
    have := hunit i hi
    rw [h, F.mul_comm, F.mul_zero] at this
    exact F.one_ne this.symm
  have hord : ∀ d, 0 < d → d < L.length → F.pow g d ≠ F.one := fun d h0 hd he => by
    have hg := F.pow_gcd _ _ he h1
    have hdv := Nat.gcd_dvd_right d L.length
    have hle := Nat.le_of_dvd h0 (Nat.gcd_dvd_left d L.length)
    obtain ⟨c, hc⟩ := hdv
    have hc1 : c ≠ 1 := fun h1 => by rw [h1, Nat.mul_one] at hc; omega
    have hc0 : c ≠ 0 := fun h0 => by rw [h0, Nat.mul_zero] at hc; omega
    obtain ⟨f, hf, b, hb⟩ := exists_prime c (by omega)
    have h2 := hf.1
    have e2 : L.length = f * (Nat.gcd d L.length * b) := by
      conv => lhs; rw [hc, hb]
      exact Nat.mul_left_comm _ _ _
    refine ht f hf ⟨_, e2⟩ ?_
    have e : L.length / f = Nat.gcd d L.length * b := by
      generalize Nat.gcd d L.length * b = x at e2
      rw [e2]
      exact Nat.mul_div_cancel_left _ (by omega)
    rw [e, pow_mul, hg, one_pow]
  have hinj : ∀ i j, i < j → j < L.length → F.pow g i ≠ F.pow g j := fun i j hij hj h => by
    have e := hunit i (by omega)
    rw [h, ← pow_add, show j + (L.length - i) = L.length + (j - i) from by omega, pow_add, h1, F.one_mul] at e
    exact hord (j - i) (by omega) (by omega) e
  have hpnd : ((List.range L.length).map (F.pow g)).Nodup := by
    unfold List.Nodup
    rw [List.pairwise_map]
    refine List.pairwise_lt_range.imp_of_mem (fun {i j} hi hj hlt => hinj i j hlt (List.mem_range.1 hj))
  have hp := perm_of_sub (m := L) hpnd (fun b hb => by
    obtain ⟨i, hi, rfl⟩ := List.mem_map.1 hb
    exact (hmem _).2 (hne i (Nat.le_of_lt (List.mem_range.1 hi)))) (by simp)
  have hlog : ∀ a, a ≠ F.zero → ∃ i, i < L.length ∧ F.pow g i = a := fun a ha => by
    obtain ⟨i, hi, e⟩ := List.mem_map.1 (hp.mem_iff.2 ((hmem a).2 ha))
    exact ⟨i, List.mem_range.1 hi, e⟩
  intro a b hab
  rcases Classical.em (a = F.zero) with ha | ha
  · exact .inl ha
  · right
    obtain ⟨i, hi, rfl⟩ := hlog a ha
    have : F.mul (F.pow g (L.length - i)) (F.mul (F.pow g i) b) = b := by rw [← F.mul_assoc, F.mul_comm (F.pow g (L.length - i)), hunit i (by omega), F.one_mul]
    rw [← this, hab, F.mul_zero]
end Rng
/-! The numbers below q. -/
abbrev El (q : Nat) : Type := {a : Nat // a < q}
def rng {p k m : Nat} (h : PK p k m) : Rng (El (p ^ k)) where
  add a b := ⟨padd p k a.1 b.1, padd_lt h _ _⟩
  mul a b := ⟨pmul p k m a.1 k b.1, pmul_lt h _ _ _⟩
  zero := ⟨0, Nat.pow_pos h.p0⟩
  one := ⟨1, h.one_lt⟩
  neg a := ⟨pscl p k (p - 1) a.1, pscl_lt h _ _⟩
  add_assoc a b c := Subtype.ext (padd_assoc h _ _ _)
  add_comm a b := Subtype.ext (padd_comm h _ _)
  add_zero a := Subtype.ext (padd_zero h _ a.2)
  add_neg a := Subtype.ext (padd_neg h _)
  mul_assoc a b c := Subtype.ext (pmul_assoc h _ _ _ a.2 b.2 c.2)
  mul_comm a b := Subtype.ext (pmul_comm h _ _ a.2 b.2)
  mul_one a := Subtype.ext (pmul_by_one h _ a.2)
  mul_add a b c := Subtype.ext (by
    show pmul p k m a.1 k (padd p k b.1 c.1) = padd p k (pmul p k m a.1 k b.1) (pmul p k m a.1 k c.1)
    rw [pmul_comm h _ _ a.2 (padd_lt h _ _), pmul_add h, pmul_comm h b.1 _ b.2 a.2, pmul_comm h c.1 _ c.2 a.2])
  one_ne := fun e => by simpa using congrArg Subtype.val e
def nzl (q : Nat) : List (El q) := (List.range (q - 1)).pmap (fun i h => ⟨i + 1, by omega⟩) (fun i hi => (by have := List.mem_range.1 hi; omega : i < q - 1))
theorem nzl_len (q : Nat) : (nzl q).length = q - 1 := by simp [nzl]
theorem nzl_mem {q : Nat} (a : El q) : a ∈ nzl q ↔ a.1 ≠ 0 := by
  simp only [nzl, List.mem_pmap, List.mem_range]
  constructor
  · rintro ⟨i, hi, rfl⟩; simp
  · intro h
    have := a.2
    exact ⟨a.1 - 1, by omega, Subtype.ext (by simp; omega)⟩
theorem nzl_nodup (q : Nat) : (nzl q).Nodup := by
  unfold nzl
  exact List.Pairwise.pmap List.nodup_range _ (fun a ha b hb h e => h (by have := congrArg Subtype.val e; simp at this; omega))
/-! Primes. -/
theorem nzd_prime {p m : Nat} (h : PK p 1 m) (hp : Prime p) (hm : m % p = 0) : ∀ a b, (rng h).mul a b = (rng h).zero → a = (rng h).zero ∨ b = (rng h).zero := by
  intro a b e
  have e1 : pmul p 1 m a.1 1 b.1 = 0 := congrArg Subtype.val e
  have ha : a.1 < p := by simpa using a.2
  have hb : b.1 < p := by simpa using b.2
  have e2 : pmul p 1 m a.1 1 b.1 = a.1 * b.1 % p := by
    have hh := pmul_lt h a.1 1 b.1
    have hd : dig p (pmul p 1 m a.1 1 b.1) 0 = a.1 * b.1 % p := by
      simp only [pmul]
      rw [pshf_zero h, padd_zero h _ (pscl_lt h _ _), dig_pscl h _ _ _ (by omega), dig_zero, Nat.mod_eq_of_lt hb, Nat.mod_mul_mod]
    rw [dig_zero, Nat.mod_eq_of_lt (by simpa using hh)] at hd
    exact hd
  rw [e2] at e1
  rcases hp.dvd_mul (Nat.dvd_of_mod_eq_zero e1) with h1 | h1
  · left; exact Subtype.ext (by show a.1 = 0; rcases Nat.eq_zero_or_pos a.1 with h0 | h0; exact h0; have := Nat.le_of_dvd h0 h1; omega)
  · right; exact Subtype.ext (by show b.1 = 0; rcases Nat.eq_zero_or_pos b.1 with h0 | h0; exact h0; have := Nat.le_of_dvd h0 h1; omega)
/-! Certificates. -/
def pwF (p k m : Nat) : Nat → Nat → Nat → Nat → Nat
  | 0, r, _, _ => r
  | f + 1, r, a, n => if n = 0 then r else pwF p k m f (if n % 2 = 1 then pmul p k m r k a else r) (pmul p k m a k a) (n / 2)
def isP (f : Nat) : Bool := Nat.ble 2 f && (List.range f).all (fun d => Nat.ble d 1 || f % d != 0)
def strip (f : Nat) : Nat → Nat → Nat
  | 0, n => n
  | e + 1, n => if n % f = 0 then strip f e (n / f) else n
def gcert (p k m g : Nat) (fs : List Nat) : Bool :=
  (fs.foldl (fun n f => strip f 17 n) (p ^ k - 1) == 1) && fs.all isP && Nat.blt g (p ^ k) && pwF p k m 17 1 g (p ^ k - 1) == 1 && fs.all (fun f => pwF p k m 17 1 g ((p ^ k - 1) / f) != 1)
theorem isP_prime {f : Nat} (h : isP f = true) : Prime f := by
  simp only [isP, Bool.and_eq_true, List.all_eq_true, List.mem_range, Bool.or_eq_true, bne_iff_ne, Nat.ble_eq] at h
  refine ⟨h.1, fun d hd => ?_⟩
  have hle := Nat.le_of_dvd (by omega) hd
  by_cases e : d = f
  · exact .inr e
  · left
    rcases h.2 d (by omega) with h1 | h1
    · have : d ≠ 0 := fun h0 => by subst h0; rw [Nat.zero_dvd] at hd; omega
      omega
    · exact absurd (Nat.mod_eq_zero_of_dvd hd) h1
theorem strip_dvd {f r : Nat} (hr : Prime r) : ∀ (e n : Nat), r ∣ n → r ∣ f ∨ r ∣ strip f e n := by
  intro e
  induction e with
  | zero => intro n h; exact .inr h
  | succ e ih =>
    intro n h
    simp only [strip]
    by_cases h0 : n % f = 0
    · rw [if_pos h0]
      have e1 : n = f * (n / f) := (Nat.mul_div_cancel' (Nat.dvd_of_mod_eq_zero h0)).symm
      rw [e1] at h
      rcases hr.dvd_mul h with h1 | h1
      · exact .inl h1
      · exact ih _ h1
    · rw [if_neg h0]; exact .inr h
theorem fold_dvd {r : Nat} (hr : Prime r) : ∀ (fs : List Nat) (n : Nat), fs.all isP = true → fs.foldl (fun n f => strip f 17 n) n = 1 → r ∣ n → r ∈ fs := by
  intro fs
  induction fs with
  | nil => intro n _ h1 h; simp only [List.foldl_nil] at h1; subst h1; have := Nat.le_of_dvd (by omega) h; have := hr.1; omega
  | cons f fs ih =>
    intro n ha h1 h
    simp only [List.all_cons, Bool.and_eq_true] at ha
    rcases strip_dvd (f := f) hr 17 n h with h2 | h2
    · rcases (isP_prime ha.1).2 r h2 with h3 | h3
      · have := hr.1; omega
      · rw [h3]; exact List.mem_cons_self
    · exact List.mem_cons_of_mem _ (ih _ ha.2 h1 h2)
theorem pwF_pow {p k m : Nat} (h : PK p k m) : ∀ (f r a n : Nat) (hr : r < p ^ k) (ha : a < p ^ k), n < 2 ^ f → pwF p k m f r a n = ((rng h).mul ⟨r, hr⟩ ((rng h).pow ⟨a, ha⟩ n)).1 := by
  intro f
  induction f with
  | zero =>
    intro r a n hr ha hn
    have : n = 0 := by simp at hn; omega
    subst this
    simp only [pwF, Rng.pow]
    rw [(rng h).mul_one]
  | succ f ih =>
    intro r a n hr ha hn
    simp only [pwF]
    by_cases h0 : n = 0
    · rw [if_pos h0]; subst h0; simp only [Rng.pow]; rw [(rng h).mul_one]
    · rw [if_neg h0]
      have hn2 : n / 2 < 2 ^ f := by rw [Nat.pow_succ] at hn; omega
      have haa : (rng h).pow (⟨pmul p k m a k a, pmul_lt h _ _ _⟩) (n / 2) = (rng h).pow ⟨a, ha⟩ (2 * (n / 2)) := by
        rw [(rng h).pow_mul]
        congr 1
        simp only [Rng.pow]
        rw [(rng h).one_mul]
        rfl
      by_cases h1 : n % 2 = 1
      · rw [if_pos h1, ih _ _ _ (pmul_lt h _ _ _) (pmul_lt h _ _ _) hn2, haa]
        have e : n = 1 + 2 * (n / 2) := by omega
        conv => rhs; rw [e, (rng h).pow_add]
        have e1 : (rng h).pow ⟨a, ha⟩ 1 = ⟨a, ha⟩ := by simp only [Rng.pow]; rw [(rng h).one_mul]
        rw [e1, ← (rng h).mul_assoc]
        rfl
      · rw [if_neg h1, ih _ _ _ hr (pmul_lt h _ _ _) hn2, haa, show 2 * (n / 2) = n from by omega]
theorem nzd_cert {p k m g : Nat} {fs : List Nat} (h : PK p k m) (hq : p ^ k ≤ 65536) (hc : gcert p k m g fs = true) : ∀ a b, (rng h).mul a b = (rng h).zero → a = (rng h).zero ∨ b = (rng h).zero := by
  simp only [gcert, Bool.and_eq_true, beq_iff_eq, List.all_eq_true, bne_iff_ne, Nat.blt_eq] at hc
  obtain ⟨⟨⟨⟨c1, c2⟩, c3⟩, c4⟩, c5⟩ := hc
  have h1 := h.one_lt
  have hpw : ∀ n, n ≤ p ^ k - 1 → pwF p k m 17 1 g n = ((rng h).pow ⟨g, c3⟩ n).1 := fun n hn => by
    rw [pwF_pow h 17 1 g n h1 c3 (by rw [show (2 : Nat) ^ 17 = 131072 from rfl]; omega)]
    exact congrArg Subtype.val ((rng h).one_mul _)
  refine (rng h).nzd_of_gen (L := nzl (p ^ k)) (g := ⟨g, c3⟩) (nzl_nodup _) (fun a => ?_) (by rw [nzl_len]; omega) ?_ ?_
  · rw [nzl_mem]
    exact ⟨fun h e => h (congrArg Subtype.val e), fun h e => h (Subtype.ext e)⟩
  · rw [nzl_len]
    exact Subtype.ext (by rw [← hpw _ (Nat.le_refl _)]; exact c4)
  · intro f hf hd he
    rw [nzl_len] at hd he
    have hm := fold_dvd hf fs _ (List.all_eq_true.2 c2) c1 hd
    exact c5 f hm (by rw [hpw _ (Nat.div_le_self _ _), he]; rfl)
/-! The extension fields: least moduli, elements with all powers. -/
/-- No polynomial of degree d, from number x on, n of them, divides c. -/
def free (p d kk c : Nat) : Nat → Nat → Bool
  | 0, _ => true
  | n + 1, x => (pmul p d x 1 kk c != 0) && free p d kk c n (x + 1)
/-- The same for the degrees from d on, n of them. -/
def irrF (p kk c : Nat) : Nat → Nat → Bool
  | 0, _ => true
  | n + 1, d => free p d kk c (p ^ d) (p ^ d) && irrF p kk c n (d + 1)
def irr (p k c : Nat) : Bool := irrF p (k + 1) c (k / 2) 1
/-- None of n numbers from c on is irreducible. -/
def nirr (p k : Nat) : Nat → Nat → Bool
  | 0, _ => true
  | n + 1, c => !irr p k c && nirr p k n (c + 1)
def cert (e : Nat × Nat × Nat × Nat × List Nat) : Bool :=
  match e with
  | (p, k, m, g, fs) => Nat.ble (p ^ k) m && Nat.blt m (2 * p ^ k) && nirr p k (m - p ^ k) (p ^ k) && irr p k m && gcert p k m g fs
def tab0 : List (Nat × Nat × Nat × Nat × List Nat) := [(2, 2, 7, 2, [3]), (2, 3, 11, 2, [7]), (2, 4, 19, 2, [3, 5]), (2, 5, 37, 2, [31]), (2, 6, 67, 2, [3, 7]), (2, 7, 131, 2, [127]), (2, 8, 283, 3, [3, 5, 17]), (2, 9, 515, 7, [7, 73]), (2, 10, 1033, 2, [3, 11, 31]), (2, 11, 2053, 2, [23, 89]), (2, 12, 4105, 3, [3, 5, 7, 13]), (2, 13, 8219, 2, [8191])]
def tab1 : List (Nat × Nat × Nat × Nat × List Nat) := [(2, 14, 16417, 7, [3, 43, 127])]
def tab2 : List (Nat × Nat × Nat × Nat × List Nat) := [(2, 15, 32771, 2, [7, 31, 151])]
def tab3 : List (Nat × Nat × Nat × Nat × List Nat) := [(2, 16, 65579, 3, [3, 5, 17, 257])]
def tab4 : List (Nat × Nat × Nat × Nat × List Nat) := [(3, 2, 10, 4, [2]), (3, 3, 34, 3, [2, 13]), (3, 4, 86, 3, [2, 5]), (3, 5, 250, 3, [2, 11]), (3, 6, 734, 3, [2, 7, 13]), (3, 7, 2198, 5, [2, 1093]), (3, 8, 6572, 38, [2, 5, 41]), (3, 9, 19747, 3, [2, 13, 757]), (3, 10, 59068, 34, [2, 11, 61]), (5, 2, 27, 6, [2, 3]), (5, 3, 131, 9, [2, 31]), (5, 4, 627, 6, [2, 3, 13]), (5, 5, 3146, 10, [2, 11, 71]), (5, 6, 15632, 5, [2, 3, 7, 31])]
def tab5 : List (Nat × Nat × Nat × Nat × List Nat) := [(7, 2, 50, 9, [2, 3]), (7, 3, 345, 22, [2, 3, 19]), (7, 4, 2409, 12, [2, 3, 5]), (7, 5, 16817, 9, [2, 3, 2801]), (11, 2, 122, 15, [2, 3, 5]), (11, 3, 1346, 11, [2, 5, 7, 19]), (11, 4, 14654, 11, [2, 3, 5, 61]), (13, 2, 171, 15, [2, 3, 7]), (13, 3, 2199, 15, [2, 3, 61]), (13, 4, 28563, 17, [2, 3, 5, 7, 17]), (17, 2, 292, 19, [2, 3]), (17, 3, 4933, 17, [2, 307]), (19, 2, 362, 22, [2, 3, 5]), (19, 3, 6861, 29, [2, 3, 127]), (23, 2, 530, 25, [2, 3, 11]), (23, 3, 12193, 23, [2, 7, 11, 79]), (29, 2, 843, 30, [2, 3, 5, 7]), (29, 3, 24422, 30, [2, 7, 13, 67]), (31, 2, 962, 35, [2, 3, 5]), (31, 3, 29794, 34, [2, 3, 5, 331])]
def tab6 : List (Nat × Nat × Nat × Nat × List Nat) := [(37, 2, 1371, 41, [2, 3, 19]), (37, 3, 50655, 75, [2, 3, 7, 67]), (41, 2, 1684, 43, [2, 3, 5, 7]), (43, 2, 1850, 45, [2, 3, 7, 11]), (47, 2, 2210, 49, [2, 3, 23]), (53, 2, 2811, 54, [2, 3, 13]), (59, 2, 3482, 62, [2, 3, 5, 29]), (61, 2, 3723, 63, [2, 3, 5, 31]), (67, 2, 4490, 74, [2, 3, 11, 17]), (71, 2, 5042, 79, [2, 3, 5, 7]), (73, 2, 5334, 76, [2, 3, 37]), (79, 2, 6242, 85, [2, 3, 5, 13]), (83, 2, 6890, 93, [2, 3, 7, 41]), (89, 2, 7924, 91, [2, 3, 5, 11]), (97, 2, 9414, 101, [2, 3, 7]), (101, 2, 10203, 102, [2, 3, 5, 17]), (103, 2, 10610, 105, [2, 3, 13, 17]), (107, 2, 11450, 109, [2, 3, 53]), (109, 2, 11883, 111, [2, 3, 5, 11]), (113, 2, 12772, 117, [2, 3, 7, 19]), (127, 2, 16130, 135, [2, 3, 7]), (131, 2, 17162, 134, [2, 3, 5, 11, 13]), (137, 2, 18772, 145, [2, 3, 17, 23]), (139, 2, 19322, 143, [2, 3, 5, 7, 23]), (149, 2, 22203, 152, [2, 3, 5, 37]), (151, 2, 22802, 160, [2, 3, 5, 19]), (157, 2, 24651, 159, [2, 3, 13, 79]), (163, 2, 26570, 170, [2, 3, 41]), (167, 2, 27890, 169, [2, 3, 7, 83]), (173, 2, 29931, 174, [2, 3, 29, 43]), (179, 2, 32042, 182, [2, 3, 5, 89]), (181, 2, 32763, 185, [2, 3, 5, 7, 13]), (191, 2, 36482, 201, [2, 3, 5, 19]), (193, 2, 37254, 198, [2, 3, 97]), (197, 2, 38811, 200, [2, 3, 7, 11]), (199, 2, 39602, 212, [2, 3, 5, 11]), (211, 2, 44522, 215, [2, 3, 5, 7, 53]), (223, 2, 49730, 225, [2, 3, 7, 37]), (227, 2, 51530, 229, [2, 3, 19, 113]), (229, 2, 52443, 231, [2, 3, 5, 19, 23]), (233, 2, 54292, 241, [2, 3, 13, 29]), (239, 2, 57122, 247, [2, 3, 5, 7, 17]), (241, 2, 58088, 248, [2, 3, 5, 11]), (251, 2, 63002, 256, [2, 3, 5, 7])]
end FFld
end Go.Proofs.YtfhhnfpapgfnmaaGreat

set_option linter.unusedVariables false
set_option linter.unusedSectionVars false
set_option linter.unusedSimpArgs false
namespace Go.Proofs.YtfhhnfpapgfnmaaGreat
namespace FFld
set_option maxRecDepth 100000 in
theorem tab0_ok : tab0.all cert = true := by decide +kernel
end FFld
end Go.Proofs.YtfhhnfpapgfnmaaGreat

set_option linter.unusedVariables false
set_option linter.unusedSectionVars false
set_option linter.unusedSimpArgs false
namespace Go.Proofs.YtfhhnfpapgfnmaaGreat
namespace FFld
set_option maxRecDepth 100000 in
theorem tab1_ok : tab1.all cert = true := by decide +kernel
set_option maxRecDepth 100000 in
theorem tab2_ok : tab2.all cert = true := by decide +kernel
set_option maxRecDepth 100000 in
theorem tab5_ok : tab5.all cert = true := by decide +kernel
set_option maxRecDepth 100000 in
theorem tab6_ok : tab6.all cert = true := by decide +kernel
end FFld
end Go.Proofs.YtfhhnfpapgfnmaaGreat

set_option linter.unusedVariables false
set_option linter.unusedSectionVars false
set_option linter.unusedSimpArgs false
namespace Go.Proofs.YtfhhnfpapgfnmaaGreat
namespace FFld
set_option maxRecDepth 100000 in
theorem tab3_ok : tab3.all cert = true := by decide +kernel
end FFld
end Go.Proofs.YtfhhnfpapgfnmaaGreat

set_option linter.unusedVariables false
set_option linter.unusedSectionVars false
set_option linter.unusedSimpArgs false
namespace Go.Proofs.YtfhhnfpapgfnmaaGreat
namespace FFld
set_option maxRecDepth 100000 in
theorem tab4_ok : tab4.all cert = true := by decide +kernel
end FFld
end Go.Proofs.YtfhhnfpapgfnmaaGreat

set_option linter.unusedVariables false
set_option linter.unusedSectionVars false
set_option linter.unusedSimpArgs false
namespace Go.Proofs.YtfhhnfpapgfnmaaGreat
namespace FFld
/-! The fields: every power of a prime up to 65536 has one. -/
theorem free_iff (p d kk c : Nat) : ∀ (n x : Nat), free p d kk c n x = true ↔ ∀ y, x ≤ y → y < x + n → pmul p d y 1 kk c ≠ 0 := by
  intro n
  induction n with
  | zero => intro x; exact ⟨fun _ y h1 h2 => by omega, fun _ => rfl⟩
  | succ n ih =>
    intro x
    simp only [free, Bool.and_eq_true, bne_iff_ne, ih]
    constructor
    · intro h y h1 h2
      by_cases e : y = x
      · subst e; exact h.1
      · exact h.2 y (by omega) (by omega)
    · intro h
      exact ⟨h x (Nat.le_refl _) (by omega), fun y h1 h2 => h y (by omega) (by omega)⟩
theorem irrF_iff (p kk c : Nat) : ∀ (n d : Nat), irrF p kk c n d = true ↔ ∀ e, d ≤ e → e < d + n → ∀ y, p ^ e ≤ y → y < 2 * p ^ e → pmul p e y 1 kk c ≠ 0 := by
  intro n
  induction n with
  | zero => intro x; exact ⟨fun _ y h1 h2 => by omega, fun _ => rfl⟩
  | succ n ih =>
    intro d
    simp only [irrF, Bool.and_eq_true, free_iff, ih]
    constructor
    · intro h e h1 h2 y h3 h4
      by_cases he : e = d
      · subst he; exact h.1 y h3 (by omega)
      · exact h.2 e (by omega) (by omega) y h3 h4
    · intro h
      exact ⟨fun y h1 h2 => h d (Nat.le_refl _) (by omega) y h1 (by omega), fun e h1 h2 => h e (by omega) (by omega)⟩
/-- c is divisible by no monic polynomial of a degree from 1 to half of k. -/
def Irr (p k c : Nat) : Prop := ∀ d, 1 ≤ d → 2 * d ≤ k → ∀ y, p ^ d ≤ y → y < 2 * p ^ d → pmul p d y 1 (k + 1) c ≠ 0
theorem irr_iff (p k c : Nat) : irr p k c = true ↔ Irr p k c := by
  unfold irr Irr
  rw [irrF_iff]
  constructor
  · intro h d h1 h2; exact h d h1 (by omega)
  · intro h d h1 h2; exact h d h1 (by omega)
theorem nirr_iff (p k : Nat) : ∀ (n c : Nat), nirr p k n c = true ↔ ∀ y, c ≤ y → y < c + n → ¬ Irr p k y := by
  intro n
  induction n with
  | zero => intro x; exact ⟨fun _ y h1 h2 => by omega, fun _ => rfl⟩
  | succ n ih =>
    intro c
    simp only [nirr, Bool.and_eq_true, Bool.not_eq_true', ih]
    constructor
    · intro h y h1 h2
      by_cases e : y = c
      · subst e; rw [← irr_iff, h.1]; simp
      · exact h.2 y (by omega) (by omega)
    · intro h
      refine ⟨?_, fun y h1 h2 => h y (by omega) (by omega)⟩
      have := h c (Nat.le_refl _) (by omega)
      rw [← irr_iff] at this
      simpa using this
/-- A field: its prime, its degree, the number of its modulus, its generator. -/
structure FD where
  p : Nat
  k : Nat
  m : Nat
  g : Nat
def FD.q (D : FD) : Nat := D.p ^ D.k
structure FD.Pre (D : FD) : Prop where
  prime : Prime D.p
  k1 : 1 ≤ D.k
  small : D.q ≤ 65536
  mod1 : D.k = 1 → D.m = D.p
  mod2 : 2 ≤ D.k → D.q ≤ D.m ∧ D.m < 2 * D.q ∧ Irr D.p D.k D.m ∧ ∀ n, D.q ≤ n → n < D.m → ¬ Irr D.p D.k n
theorem FD.Pre.pk {D : FD} (h : D.Pre) : PK D.p D.k D.m := ⟨h.prime.1, h.k1⟩
def FD.Nzd (D : FD) (h : PK D.p D.k D.m) : Prop := ∀ a b, (rng h).mul a b = (rng h).zero → a = (rng h).zero ∨ b = (rng h).zero
def FD.dom {D : FD} {h : PK D.p D.k D.m} (hn : D.Nzd h) : Dom (El (D.p ^ D.k)) := (rng h).dom hn
theorem nzl_all {D : FD} {h : PK D.p D.k D.m} (hn : D.Nzd h) : (FD.dom hn).All (nzl (D.p ^ D.k)) := by
  refine ⟨nzl_nodup _, fun a => ?_⟩
  rw [nzl_mem]
  exact ⟨fun h e => h (congrArg Subtype.val e), fun h e => h (Subtype.ext e)⟩
/-- All that is asked of a field. -/
structure FD.Ok (D : FD) : Prop where
  pre : D.Pre
  nzd : D.Nzd pre.pk
  g1 : 1 ≤ D.g
  gq : D.g < D.p ^ D.k
  ord : (FD.dom nzd).Ord ⟨D.g, gq⟩ (D.p ^ D.k - 1)
  least : ∀ a (ha : a < D.p ^ D.k), 1 ≤ a → a < D.g → ¬ (FD.dom nzd).Ord ⟨a, ha⟩ (D.p ^ D.k - 1)
theorem exists_least {P : Nat → Prop} : ∀ (n : Nat), P n → ∃ m, P m ∧ ∀ i, i < m → ¬ P i := by
  intro n
  induction n using Nat.strongRecOn with
  | ind n ih =>
    intro h
    rcases Classical.em (∃ i, i < n ∧ P i) with ⟨i, hi, hp⟩ | hno
    · exact ih i hi hp
    · exact ⟨n, h, fun i hi hp => hno ⟨i, hi, hp⟩⟩
theorem FD.with_gen (p k m : Nat) (h : FD.Pre ⟨p, k, m, 0⟩) (hn : FD.Nzd ⟨p, k, m, 0⟩ h.pk) : ∃ g, FD.Ok ⟨p, k, m, g⟩ := by
  have h1 : 1 < p ^ k := h.pk.one_lt
  have hall := nzl_all hn
  obtain ⟨g, hg, ho⟩ := (FD.dom hn).exists_gen hall (by rw [nzl_len]; have : 1 < p ^ k := h1; show 0 < p ^ k - 1; omega)
  rw [nzl_len] at ho
  obtain ⟨a, ⟨ha, ha1, hao⟩, hl⟩ := exists_least (P := fun a => ∃ ha : a < p ^ k, 1 ≤ a ∧ (FD.dom hn).Ord ⟨a, ha⟩ (p ^ k - 1)) g.1 ⟨g.2, Nat.pos_of_ne_zero (fun e => hg (Subtype.ext e)), ho⟩
  have hpre : FD.Pre ⟨p, k, m, a⟩ := ⟨h.prime, h.k1, h.small, h.mod1, h.mod2⟩
  exact ⟨a, ⟨hpre, hn, ha1, ha, hao, fun b hb hb1 hlt hbo => hl b hlt ⟨hb, hb1, hbo⟩⟩⟩
theorem FD.prime_exists (p : Nat) (hp : Prime p) (hq : p ≤ 65536) : ∃ g, FD.Ok ⟨p, 1, p, g⟩ := by
  have h : FD.Pre ⟨p, 1, p, 0⟩ := ⟨hp, Nat.le_refl _, by show p ^ 1 ≤ _; rw [Nat.pow_one]; exact hq, fun _ => rfl, fun h => by simp at h⟩
  exact FD.with_gen p 1 p h (nzd_prime h.pk hp (Nat.mod_self p))
def tab : List (Nat × Nat × Nat × Nat × List Nat) := tab0 ++ tab1 ++ tab2 ++ tab3 ++ tab4 ++ tab5 ++ tab6
theorem tab_ok : tab.all cert = true := by
  unfold tab
  simp only [List.all_append, Bool.and_eq_true]
  exact ⟨⟨⟨⟨⟨⟨tab0_ok, tab1_ok⟩, tab2_ok⟩, tab3_ok⟩, tab4_ok⟩, tab5_ok⟩, tab6_ok⟩
theorem tab_all : (List.range 257).all (fun p => (List.range 17).all fun k => Nat.ble k 1 || Nat.blt 65536 (p ^ k) || !isP p || tab.any (fun e => e.1 == p && e.2.1 == k)) = true := by decide +kernel
theorem isP_of {p : Nat} (hp : Prime p) : isP p = true := by
  simp only [isP, Bool.and_eq_true, List.all_eq_true, List.mem_range, Bool.or_eq_true, bne_iff_ne, Nat.ble_eq]
  refine ⟨hp.1, fun d hd => ?_⟩
  by_cases h1 : d ≤ 1
  · exact .inl h1
  · right
    intro h0
    rcases hp.2 d (Nat.dvd_of_mod_eq_zero h0) with h | h <;> omega
theorem FD.ext_exists (p k : Nat) (hp : Prime p) (hk : 2 ≤ k) (hq : p ^ k ≤ 65536) : ∃ m g, FD.Ok ⟨p, k, m, g⟩ := by
  have hp2 := hp.1
  have hpl : p < 257 := by
    have h1 : p ^ 2 ≤ p ^ k := Nat.pow_le_pow_right (by omega) hk
    rcases Nat.lt_or_ge p 257 with h | h
    · exact h
    · have := Nat.mul_le_mul h h
      rw [Nat.pow_two] at h1
      omega
  have hkl : k < 17 := by
    rcases Nat.lt_or_ge k 17 with h | h
    · exact h
    · have h1 : 2 ^ 17 ≤ p ^ k := Nat.le_trans (Nat.pow_le_pow_right (by omega) h) (Nat.pow_le_pow_left hp2 k)
      rw [show (2 : Nat) ^ 17 = 131072 from rfl] at h1
      omega
  have ht := tab_all
  simp only [List.all_eq_true, List.mem_range, Bool.or_eq_true, Bool.not_eq_true', List.any_eq_true, Bool.and_eq_true, beq_iff_eq, Nat.ble_eq, Nat.blt_eq] at ht
  have h3 := ht p hpl k hkl
  rw [isP_of hp] at h3
  rcases h3 with ((h3 | h3) | h3) | h3
  · omega
  · omega
  · exact absurd h3 (by simp)
  · obtain ⟨⟨p', k', m, g, fs⟩, hm, h1, h2⟩ := h3
    simp only [] at h1 h2
    subst h1 h2
    have hc := List.all_eq_true.1 tab_ok _ hm
    simp only [cert, Bool.and_eq_true, Nat.ble_eq, Nat.blt_eq, nirr_iff, irr_iff] at hc
    obtain ⟨⟨⟨⟨c1, c2⟩, c3⟩, c4⟩, c5⟩ := hc
    have h : FD.Pre ⟨p', k', m, 0⟩ := ⟨hp, by show 1 ≤ k'; omega, hq, fun h => by have h' : k' = 1 := h; omega, fun _ => ⟨c1, c2, c4, fun n h1 h2 => c3 n h1 (by have e1 : p' ^ k' ≤ n := h1; have e2 : n < m := h2; omega)⟩⟩
    obtain ⟨g', hg'⟩ := FD.with_gen p' k' m h (nzd_cert h.pk hq c5)
    exact ⟨m, g', hg'⟩
theorem FD.exists (p k : Nat) (hp : Prime p) (hk : 1 ≤ k) (hq : p ^ k ≤ 65536) : ∃ m g, FD.Ok ⟨p, k, m, g⟩ := by
  by_cases h : k = 1
  · subst h
    rw [Nat.pow_one] at hq
    obtain ⟨g, hg⟩ := FD.prime_exists p hp hq
    exact ⟨p, g, hg⟩
  · exact FD.ext_exists p k hp (by omega) hq
end FFld
end Go.Proofs.YtfhhnfpapgfnmaaGreat

set_option linter.unusedVariables false
set_option linter.unusedSimpArgs false
namespace Go.Proofs.YtfhhnfpapgfnmaaGreat
open Go Go.RowKit
/-- A fact that no tactic looks into. -/
structure Kept (p : Prop) : Prop where
  out : p
theorem growRefl (w : World) (r : Option Nat) : w.grownBy w r := ⟨rfl, rfl, rfl, Nat.le_refl _, fun _ _ _ => rfl⟩
theorem growTrans {a b c : World} {r : Option Nat} (h : a.grownBy b r) (k : b.grownBy c r) : a.grownBy c r :=
  ⟨k.os.trans h.os, k.tape.trans h.tape, k.output.trans h.output, Nat.le_trans h.size k.size, fun i hi hne => (k.block i (Nat.lt_of_lt_of_le hi h.size) hne).trans (h.block i hi hne)⟩
theorem growSet {w w' : World} {g : Nat} (h : w.grownBy w' (some g)) (i : Nat) (v : Value) : w.grownBy (w'.setCell ⟨g, i, none⟩ v) (some g) :=
  growTrans h ⟨rfl, rfl, rfl, by simp [World.setCell], fun k _ hk => heap_setCell_other w' ⟨g, i, none⟩ k v (fun e => hk (by rw [e]))⟩
theorem growBelow {w w' : World} {r : Option Nat} (h : Below w.heap.size w w') : w.grownBy w' r := ⟨h.os, h.tape, h.output, h.size, fun i hi _ => h.block i hi⟩
theorem belowGrow {w0 w w' : World} {g : Nat} (h : w.grownBy w' (some g)) (hb : Below w0.heap.size w0 w) (hg : w0.heap.size ≤ g) : Below w0.heap.size w0 w' :=
  hb.grown h hb.size (fun k hk => by cases hk; exact hg)
/-- How far addMultiple has come. -/
theorem belowCell {w w' : World} {b o : Nat} {v : Value} (h : Below w.heap.size w w') (hc : w.cell? ⟨b, o, none⟩ = some v) : w'.cell? ⟨b, o, none⟩ = some v :=
  (h.cell (p := ⟨b, o, none⟩) (World.block_lt_of_cell? w _ hc)).trans hc
theorem belowDrew (w : World) : Below w.heap.size w w.drew := ⟨rfl, rfl, rfl, Nat.le_refl _, fun _ _ => rfl⟩
theorem heap_last (W : World) (o : Obj) (n : Nat) (h : W.heap.size = n) : (W.alloc o).heap[n]? = some o := by subst h; exact heap_alloc_new W o
/-- The end of a call that stores an integer into its result's box g. -/
theorem two_cells {w : World} {g : Nat} {a b : Value} {T : TypeId} (h : w.heap[g]? = some (.cells #[a, b] T (0, 0))) :
    w.cell? ⟨g, 0, none⟩ = some a ∧ w.cell? ⟨g, 1, none⟩ = some b ∧ w.frozen? ⟨g, 0, none⟩ = false ∧ w.frozen? ⟨g, 1, none⟩ = false :=
  ⟨by rw [cell_of_row w g 0 _ T (0, 0) h]; rfl, by rw [cell_of_row w g 1 _ T (0, 0) h]; rfl, frozen_of_row w g 0 _ T h, frozen_of_row w g 1 _ T h⟩
theorem two_set {w : World} {g : Nat} {a b : Value} {T : TypeId} (h : w.heap[g]? = some (.cells #[a, b] T (0, 0))) (u v : Value) :
    ((w.setCell ⟨g, 0, none⟩ u).setCell ⟨g, 1, none⟩ v).heap[g]? = some (.cells #[u, v] T (0, 0)) := by
  have h1 := heap_setCell_same w g 0 #[a, b] T u h
  have h2 := heap_setCell_same _ g 1 _ T v h1
  simpa using h2
theorem three_cells {w : World} {g : Nat} {a b c : Value} {T : TypeId} (h : w.heap[g]? = some (.cells #[a, b, c] T (0, 0))) :
    w.cell? ⟨g, 0, none⟩ = some a ∧ w.cell? ⟨g, 1, none⟩ = some b ∧ w.cell? ⟨g, 2, none⟩ = some c ∧ w.frozen? ⟨g, 0, none⟩ = false ∧ w.frozen? ⟨g, 1, none⟩ = false ∧ w.frozen? ⟨g, 2, none⟩ = false :=
  ⟨by rw [cell_of_row w g 0 _ T (0, 0) h]; rfl, by rw [cell_of_row w g 1 _ T (0, 0) h]; rfl, by rw [cell_of_row w g 2 _ T (0, 0) h]; rfl, frozen_of_row w g 0 _ T h, frozen_of_row w g 1 _ T h, frozen_of_row w g 2 _ T h⟩
/-- Blocks that a call has laid behind the world w0, one after the other, and that are as they were. -/
def Bxs (w0 : World) (os : List Obj) (W : World) : Prop := Below w0.heap.size w0 W ∧ w0.heap.size + os.length ≤ W.heap.size ∧ ∀ i o, os[i]? = some o → W.heap[w0.heap.size + i]? = some o
theorem Bxs.start (w : World) : Bxs w [] w := ⟨Below.refl _ _, by simp, fun i o h => by simp at h⟩
theorem Bxs.alloc {w0 W : World} {os : List Obj} (h : Bxs w0 os W) (hs : W.heap.size = w0.heap.size + os.length) (o : Obj) : Bxs w0 (os ++ [o]) (W.alloc o) := by
  refine ⟨h.1.alloc h.1.size _, by simp; omega, fun i o' hi => ?_⟩
  by_cases hl : i < os.length
  · rw [List.getElem?_append_left hl] at hi
    exact (heap_alloc_old _ _ (by omega)).trans (h.2.2 i o' hi)
  · rw [List.getElem?_append_right (by omega)] at hi
    have : i - os.length = 0 := by
      apply Classical.byContradiction
      intro hc
      rw [List.getElem?_eq_none (by simp; omega)] at hi
      cases hi
    rw [this] at hi
    simp only [List.getElem?_cons_zero, Option.some.injEq] at hi
    subst hi
    have e : w0.heap.size + i = W.heap.size := by omega
    rw [e]
    exact heap_alloc_new W _
theorem Bxs.below {w0 W W' : World} {os : List Obj} (h : Bxs w0 os W) (hb : Below W.heap.size W W') : Bxs w0 os W' :=
  ⟨h.1.trans (hb.mono h.1.size), Nat.le_trans h.2.1 hb.size, fun i o hi => (hb.block _ (Array.getElem?_eq_some_iff.1 (h.2.2 i o hi)).1).trans (h.2.2 i o hi)⟩
theorem Bxs.drew {w0 W : World} {os : List Obj} (h : Bxs w0 os W) : Bxs w0 os W.drew := h.below (belowDrew W)
theorem Bxs.b0 {w0 W : World} {o : Obj} {os : List Obj} (h : Bxs w0 (o :: os) W) : W.heap[w0.heap.size]? = some o := h.2.2 0 o rfl
theorem Bxs.b1 {w0 W : World} {o o1 : Obj} {os : List Obj} (h : Bxs w0 (o :: o1 :: os) W) : W.heap[w0.heap.size + 1]? = some o1 := h.2.2 1 o1 rfl
/-- The call returns z, and no error. -/
theorem info_i64 : (Tryz.prog.info? 3).map (fun i => (i.zero, i.size, i.bytes)) = some (some (.int .i64 0), 1, 8) := by kernel_rfl
/-- The call returns v; of what was there nothing has turned. -/
def RB (w : World) (v : Value) (e : Ending) (w' : World) : Prop := Below w.heap.size w w' ∧ e = .returned v
/-- The call returns v, and only reads. -/
def RQ (w : World) (v : Value) (e : Ending) (w' : World) : Prop := e = .returned v ∧ ∃ m, w' = w.drewN m
/-- A row of one's own, cut at its end. -/
theorem Mine.upto {E : TypeId} {K : IntKind} {B : Nat} {w : World} {g n cap : Nat} {xs : List Int} (h : Mine E K B w (.slice (some ⟨g, 0, none⟩) xs.length cap) xs) (hn : n ≤ xs.length) : Mine E K B w (.slice (some ⟨g, 0, none⟩) n cap) (xs.take n) := by
  rcases h with ⟨e, _⟩ | ⟨g', cap', cur, e, hB, hg, h1, h2, h3, h4⟩
  · cases e
  · simp only [Value.slice.injEq, Option.some.injEq, Addr.mk.injEq, and_true, true_and] at e
    obtain ⟨rfl, rfl⟩ := e
    have hl : (xs.take n).length = n := by simp; omega
    refine .inr ⟨g, cap, cur, by rw [hl], hB, hg, by omega, h2, h3, ?_⟩
    rw [hl, List.map_take, ← h4, List.take_take, Nat.min_eq_left hn]
/-- The digits without the zeros that lead the number. -/
def sliceLen : Value → Nat | .slice _ k _ => k | _ => 0
theorem w64 {n : Int} (h0 : 0 ≤ n) (h1 : n ≤ 4611686018427387904) : wrap64 n = n := by unfold wrap64; omega
theorem wi {n : Int} (h0 : 0 ≤ n) (h1 : n ≤ 4611686018427387904) : IntKind.i64.wrap n = n := by rw [IntKind.wrap_i64]; omega
/-- A product by a name. -/
theorem wmul {a b c : Nat} (h : a * b = c) (hc : c ≤ 1152921504606846976) : wrap64 ((a : Int) * b) = c := by rw [← Int.natCast_mul, h]; exact w64 (by omega) (by omega)
theorem wimul {a b c : Nat} (h : a * b = c) (hc : c ≤ 1152921504606846976) : IntKind.i64.wrap ((a : Int) * b) = c := by rw [← Int.natCast_mul, h]; exact wi (by omega) (by omega)
theorem nmul_le {a b A B : Nat} (h1 : a ≤ A) (h2 : b ≤ B) : a * b ≤ A * B := Nat.mul_le_mul h1 h2
theorem imul_le {a b A B : Int} (h0 : 0 ≤ a) (h1 : a ≤ A) (h2 : 0 ≤ b) (h3 : b ≤ B) : a * b ≤ A * B := Int.mul_le_mul h1 h3 h2 (Int.le_trans h0 h1)
theorem imul_nn {a b : Int} (h0 : 0 ≤ a) (h2 : 0 ≤ b) : 0 ≤ a * b := Int.mul_nonneg h0 h2
end Go.Proofs.YtfhhnfpapgfnmaaGreat
