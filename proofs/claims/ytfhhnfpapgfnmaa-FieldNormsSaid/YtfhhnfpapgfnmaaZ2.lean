/-
  Texts of the proof, merged by program: Ff Fg Fi.
-/

set_option linter.unusedVariables false
set_option linter.unusedSectionVars false
set_option linter.unusedSimpArgs false
namespace Go.Proofs.Ytfhhnfpapgfnmaa
namespace FFld
/-! Finite fields: Fermat's law, the number of roots, generators. -/
/-- A commutative ring without divisors of 0. -/
structure Dom (α : Type) where
  add : α → α → α
  mul : α → α → α
  zero : α
  one : α
  neg : α → α
  add_assoc : ∀ a b c, add (add a b) c = add a (add b c)
  add_comm : ∀ a b, add a b = add b a
  add_zero : ∀ a, add a zero = a
  add_neg : ∀ a, add a (neg a) = zero
  mul_assoc : ∀ a b c, mul (mul a b) c = mul a (mul b c)
  mul_comm : ∀ a b, mul a b = mul b a
  mul_one : ∀ a, mul a one = a
  mul_add : ∀ a b c, mul a (add b c) = add (mul a b) (mul a c)
  nzd : ∀ a b, mul a b = zero → a = zero ∨ b = zero
  one_ne : one ≠ zero
variable {α : Type} (F : Dom α)
namespace Dom
theorem zero_add (a : α) : F.add F.zero a = a := by rw [F.add_comm, F.add_zero]
theorem add_left_cancel {a b c : α} (h : F.add a b = F.add a c) : b = c := by
  have h1 : F.add (F.neg a) (F.add a b) = F.add (F.neg a) (F.add a c) := by rw [h]
  rw [← F.add_assoc, ← F.add_assoc, F.add_comm (F.neg a) a, F.add_neg, F.zero_add, F.zero_add] at h1
  exact h1
theorem mul_zero (a : α) : F.mul a F.zero = F.zero := by
  have h : F.add (F.mul a F.zero) (F.mul a F.zero) = F.add (F.mul a F.zero) F.zero := by
    rw [← F.mul_add, F.add_zero, F.add_zero]
  exact F.add_left_cancel h
theorem zero_mul (a : α) : F.mul F.zero a = F.zero := by rw [F.mul_comm, F.mul_zero]
theorem one_mul (a : α) : F.mul F.one a = a := by rw [F.mul_comm, F.mul_one]
theorem add_mul (a b c : α) : F.mul (F.add a b) c = F.add (F.mul a c) (F.mul b c) := by rw [F.mul_comm, F.mul_add, F.mul_comm c a, F.mul_comm c b]
theorem neg_unique {a b : α} (h : F.add a b = F.zero) : b = F.neg a := F.add_left_cancel (h.trans (F.add_neg a).symm)
theorem mul_neg (a b : α) : F.mul a (F.neg b) = F.neg (F.mul a b) := by
  apply F.neg_unique
  rw [← F.mul_add, F.add_neg, F.mul_zero]
theorem neg_neg (a : α) : F.neg (F.neg a) = a := by
  symm
  apply F.neg_unique
  rw [F.add_comm, F.add_neg]
theorem eq_of_sub {a b : α} (h : F.add a (F.neg b) = F.zero) : a = b := by
  have := F.neg_unique (a := F.neg b) (b := a) (by rw [F.add_comm]; exact h)
  rw [F.neg_neg] at this
  exact this
theorem mul_left_cancel {a b c : α} (ha : a ≠ F.zero) (h : F.mul a b = F.mul a c) : b = c := by
  have h1 : F.mul a (F.add b (F.neg c)) = F.zero := by rw [F.mul_add, F.mul_neg, h, F.add_neg]
  rcases F.nzd _ _ h1 with h2 | h2
  · exact absurd h2 ha
  · exact F.eq_of_sub h2
theorem mul_ne {a b : α} (ha : a ≠ F.zero) (hb : b ≠ F.zero) : F.mul a b ≠ F.zero := fun h => by
  rcases F.nzd _ _ h with h | h
  · exact ha h
  · exact hb h
/-- Powers. -/
def pow (F : Dom α) (a : α) : Nat → α
  | 0 => F.one
  | n + 1 => F.mul (pow F a n) a
theorem pow_zero (a : α) : F.pow a 0 = F.one := rfl
theorem pow_succ (a : α) (n : Nat) : F.pow a (n + 1) = F.mul (F.pow a n) a := rfl
theorem pow_one (a : α) : F.pow a 1 = a := F.one_mul a
theorem pow_add (a : α) (m n : Nat) : F.pow a (m + n) = F.mul (F.pow a m) (F.pow a n) := by
  induction n with
  | zero => rw [Nat.add_zero, pow_zero, F.mul_one]
  | succ n ih => rw [← Nat.add_assoc, pow_succ, pow_succ, ih, F.mul_assoc]
theorem one_pow (n : Nat) : F.pow F.one n = F.one := by
  induction n with
  | zero => rfl
  | succ n ih => rw [pow_succ, ih, F.mul_one]
theorem mul_pow (a b : α) (n : Nat) : F.pow (F.mul a b) n = F.mul (F.pow a n) (F.pow b n) := by
  induction n with
  | zero => rw [pow_zero, pow_zero, pow_zero, F.mul_one]
  | succ n ih => rw [pow_succ, pow_succ, pow_succ, ih, F.mul_assoc, F.mul_assoc, ← F.mul_assoc (F.pow b n), F.mul_comm (F.pow b n) a, F.mul_assoc]
theorem pow_mul (a : α) (m n : Nat) : F.pow a (m * n) = F.pow (F.pow a m) n := by
  induction n with
  | zero => rfl
  | succ n ih => rw [Nat.mul_succ, pow_add, ih, pow_succ]
theorem pow_ne {a : α} (ha : a ≠ F.zero) (n : Nat) : F.pow a n ≠ F.zero := by
  induction n with
  | zero => exact F.one_ne
  | succ n ih => exact F.mul_ne ih ha
theorem zero_pow {n : Nat} (h : 0 < n) : F.pow F.zero n = F.zero := by
  cases n with
  | zero => omega
  | succ n => rw [pow_succ, F.mul_zero]
/-! Roots of polynomials. -/
def eval (F : Dom α) : List α → α → α
  | [], _ => F.zero
  | c :: l, x => F.add c (F.mul x (eval F l x))
/-- The quotient by x - r. -/
def syn (F : Dom α) : List α → α → List α
  | [], _ => []
  | _ :: [], _ => []
  | _ :: c :: t, r => F.eval (c :: t) r :: syn F (c :: t) r
theorem syn_len (l : List α) (r : α) : (F.syn l r).length = l.length - 1 := by
  induction l with
  | nil => rfl
  | cons c l ih => cases l with
    | nil => rfl
    | cons d t => simp only [syn, List.length_cons] at ih ⊢; omega
theorem eval_syn (l : List α) (r x : α) : F.add (F.eval l x) (F.mul r (F.eval (F.syn l r) x)) = F.add (F.eval l r) (F.mul x (F.eval (F.syn l r) x)) := by
  induction l with
  | nil => simp only [syn, eval, F.mul_zero]
  | cons c l ih => cases l with
    | nil => simp only [syn, eval, F.mul_zero]
    | cons d t =>
      have e : F.eval (F.syn (c :: d :: t) r) x = F.add (F.eval (d :: t) r) (F.mul x (F.eval (F.syn (d :: t) r) x)) := rfl
      have e1 : ∀ y, F.eval (c :: d :: t) y = F.add c (F.mul y (F.eval (d :: t) y)) := fun _ => rfl
      rw [e, e1, e1]
      generalize F.eval (d :: t) x = P at *
      generalize F.eval (d :: t) r = Q at *
      generalize F.eval (F.syn (d :: t) r) x = S at *
      rw [← ih]
      have h1 : F.mul x (F.add P (F.mul r S)) = F.add (F.mul x P) (F.mul r (F.mul x S)) := by rw [F.mul_add, ← F.mul_assoc x r S, F.mul_comm x r, F.mul_assoc]
      have h2 : F.mul r (F.add P (F.mul r S)) = F.add (F.mul r Q) (F.mul r (F.mul x S)) := by rw [ih, F.mul_add]
      rw [h1, h2, F.add_assoc, F.add_assoc]
      congr 1
      rw [← F.add_assoc, ← F.add_assoc, F.add_comm (F.mul x P)]
theorem roots (R : List α) (hR : R.Nodup) : ∀ (l : List α), l.length ≤ R.length → (∀ r ∈ R, F.eval l r = F.zero) → ∀ x, F.eval l x = F.zero := by
  induction R with
  | nil => intro l h _ x; rw [List.eq_nil_of_length_eq_zero (Nat.le_zero.1 h)]; rfl
  | cons r R ih =>
    intro l h hr x
    obtain ⟨hn, hR'⟩ := List.nodup_cons.1 hR
    have h0 := hr r List.mem_cons_self
    have hs : ∀ x, F.eval (F.syn l r) x = F.zero := by
      refine ih hR' _ (by rw [syn_len]; simp only [List.length_cons] at h; omega) (fun q hq => ?_)
      have hq0 := hr q (List.mem_cons_of_mem _ hq)
      have e := F.eval_syn l r q
      rw [h0, hq0, F.zero_add, F.zero_add] at e
      have e2 : F.mul (F.add q (F.neg r)) (F.eval (F.syn l r) q) = F.zero := by
        rw [F.add_mul, ← e, F.mul_comm (F.neg r), F.mul_neg, F.mul_comm _ r, F.add_neg]
      rcases F.nzd _ _ e2 with e3 | e3
      · exact absurd (F.eq_of_sub e3 ▸ hq) hn
      · exact e3
    have e := F.eval_syn l r x
    rw [h0, hs x, F.mul_zero, F.mul_zero, F.add_zero, F.add_zero] at e
    exact e
/-- The polynomial x ^ n. -/
def mono (F : Dom α) : Nat → List α
  | 0 => [F.one]
  | n + 1 => F.zero :: mono F n
theorem mono_len (n : Nat) : (F.mono n).length = n + 1 := by
  induction n with
  | zero => rfl
  | succ n ih => simp only [mono, List.length_cons, ih]
theorem eval_mono (n : Nat) (x : α) : F.eval (F.mono n) x = F.pow x n := by
  induction n with
  | zero => simp only [mono, eval, F.mul_zero, F.add_zero, pow_zero]
  | succ n ih => simp only [mono, eval, ih, F.zero_add, pow_succ]; rw [F.mul_comm]
/-- Of n > 0, fewer than n + 1 different elements have the n-th power 1. -/
theorem roots_pow {n : Nat} (hn : 0 < n) (R : List α) (hR : R.Nodup) (h : ∀ r ∈ R, F.pow r n = F.one) : R.length ≤ n := by
  rcases Nat.lt_or_ge n R.length with hlt | hle
  · exfalso
    obtain ⟨m, rfl⟩ : ∃ m, n = m + 1 := ⟨n - 1, by omega⟩
    have hz := F.roots R hR (F.neg F.one :: F.mono m) (by simp only [List.length_cons, mono_len]; omega) (fun r hr => by
      simp only [eval, eval_mono]
      rw [F.mul_comm r, ← pow_succ, h r hr, F.add_comm, F.add_neg]) F.zero
    simp only [eval, F.zero_mul, F.add_zero] at hz
    have h1 := F.add_neg F.one
    rw [hz, F.add_zero] at h1
    exact F.one_ne h1
  · exact hle
/-! Fermat's law: by the product of all elements that are not 0. -/
def prod (F : Dom α) : List α → α
  | [] => F.one
  | a :: l => F.mul a (prod F l)
theorem prod_perm {l m : List α} (h : l.Perm m) : F.prod l = F.prod m := by
  induction h with
  | nil => rfl
  | cons a _ ih => simp only [prod, ih]
  | swap a b l => simp only [prod]; rw [← F.mul_assoc, ← F.mul_assoc, F.mul_comm b a]
  | trans _ _ h1 h2 => exact h1.trans h2
theorem prod_map (a : α) (l : List α) : F.prod (l.map (F.mul a)) = F.mul (F.pow a l.length) (F.prod l) := by
  induction l with
  | nil => simp only [List.map_nil, prod, List.length_nil, pow_zero, F.mul_one]
  | cons b l ih =>
    simp only [List.map_cons, prod, ih, List.length_cons, pow_succ]
    rw [F.mul_assoc, F.mul_assoc, ← F.mul_assoc b, F.mul_comm b (F.pow a l.length), F.mul_assoc, ← F.mul_assoc a, F.mul_comm a (F.pow a l.length), F.mul_assoc]
theorem prod_ne {l : List α} (h : ∀ a ∈ l, a ≠ F.zero) : F.prod l ≠ F.zero := by
  induction l with
  | nil => exact F.one_ne
  | cons b l ih => exact F.mul_ne (h b List.mem_cons_self) (ih fun a ha => h a (List.mem_cons_of_mem _ ha))
end Dom
theorem perm_of_sub {l m : List α} (hl : l.Nodup) (hs : ∀ a ∈ l, a ∈ m) (hn : m.length ≤ l.length) : l.Perm m := by
  induction l generalizing m with
  | nil => rw [List.eq_nil_of_length_eq_zero (Nat.le_zero.1 hn)]
  | cons a l ih =>
    obtain ⟨ha, hl'⟩ := List.nodup_cons.1 hl
    obtain ⟨m1, m2, rfl⟩ := List.append_of_mem (hs a List.mem_cons_self)
    refine ((ih (m := m1 ++ m2) hl' (fun b hb => ?_) (by simp only [List.length_append, List.length_cons] at hn ⊢; omega)).cons a).trans List.perm_middle.symm
    have := hs b (List.mem_cons_of_mem _ hb)
    simp only [List.mem_append, List.mem_cons] at this ⊢
    rcases this with h | h | h
    · exact .inl h
    · exact absurd (h ▸ hb) ha
    · exact .inr h
namespace Dom
theorem nodup_map {a : α} (ha : a ≠ F.zero) {l : List α} (h : l.Nodup) : (l.map (F.mul a)).Nodup := by
  induction l with
  | nil => exact List.nodup_nil
  | cons b l ih =>
    obtain ⟨hb, hl⟩ := List.nodup_cons.1 h
    refine List.nodup_cons.2 ⟨fun hm => ?_, ih hl⟩
    obtain ⟨c, hc, e⟩ := List.mem_map.1 hm
    exact hb (F.mul_left_cancel ha e ▸ hc)
/-- L is the list of all elements that are not 0. -/
structure All (F : Dom α) (L : List α) : Prop where
  nodup : L.Nodup
  mem : ∀ a, a ∈ L ↔ a ≠ F.zero
theorem fermat {L : List α} (hL : F.All L) {a : α} (ha : a ≠ F.zero) : F.pow a L.length = F.one := by
  have hp : (L.map (F.mul a)).Perm L := perm_of_sub (F.nodup_map ha hL.nodup) (fun b hb => by
    obtain ⟨c, hc, rfl⟩ := List.mem_map.1 hb
    exact (hL.mem _).2 (F.mul_ne ha ((hL.mem _).1 hc))) (by rw [List.length_map]; exact Nat.le_refl _)
  have h := F.prod_perm hp
  rw [prod_map] at h
  have hne := F.prod_ne (l := L) fun a h => (hL.mem a).1 h
  apply F.mul_left_cancel hne
  rw [F.mul_one, F.mul_comm]
  exact h
/-! Orders. -/
/-- n is the order of a. -/
def Ord (F : Dom α) (a : α) (n : Nat) : Prop := ∀ k, F.pow a k = F.one ↔ n ∣ k
theorem pow_gcd {a : α} : ∀ (m n : Nat), F.pow a m = F.one → F.pow a n = F.one → F.pow a (Nat.gcd m n) = F.one := by
  intro m
  induction m using Nat.strongRecOn with
  | ind m ih =>
    intro n hm hn
    rcases Nat.eq_zero_or_pos m with h | h
    · subst h; rw [Nat.gcd_zero_left]; exact hn
    · rw [Nat.gcd_rec]
      refine ih _ (Nat.mod_lt _ h) _ ?_ hm
      have e := Nat.div_add_mod n m
      rw [← e, pow_add, pow_mul, hm, one_pow, F.one_mul] at hn
      exact hn
/-- A power of a prime is the order of a, if a to it is 1 and a to the next lower one is not. -/
theorem ord_prime {a : α} {f e : Nat} (hf : ∀ d, d ∣ f ^ (e + 1) → d ∣ f ^ e ∨ d = f ^ (e + 1)) (h1 : F.pow a (f ^ (e + 1)) = F.one) (h0 : F.pow a (f ^ e) ≠ F.one) : F.Ord a (f ^ (e + 1)) := by
  intro k
  constructor
  · intro hk
    have hg := F.pow_gcd _ _ hk h1
    rcases hf _ (Nat.gcd_dvd_right k (f ^ (e + 1))) with h | h
    · obtain ⟨c, hc⟩ := h
      exact absurd (by rw [hc, pow_mul, hg, one_pow]) h0
    · rw [← h]; exact Nat.gcd_dvd_left _ _
  · rintro ⟨c, rfl⟩
    rw [pow_mul, h1, one_pow]
theorem ord_mul {a b : α} {m n : Nat} (ha : F.Ord a m) (hb : F.Ord b n) (hc : Nat.Coprime m n) : F.Ord (F.mul a b) (m * n) := by
  intro k
  constructor
  · intro hk
    rw [mul_pow] at hk
    have h1 : F.pow b (k * m) = F.one := by
      have := congrArg (fun x => F.pow x m) hk
      simp only [mul_pow, one_pow, ← pow_mul] at this
      rw [(ha (k * m)).2 (Nat.dvd_mul_left _ _), F.one_mul] at this
      exact this
    have h2 : F.pow a (k * n) = F.one := by
      have := congrArg (fun x => F.pow x n) hk
      simp only [mul_pow, one_pow, ← pow_mul] at this
      rw [(hb (k * n)).2 (Nat.dvd_mul_left _ _), F.mul_one] at this
      exact this
    have d1 : n ∣ k := hc.symm.dvd_of_dvd_mul_right ((hb _).1 h1)
    have d2 : m ∣ k := hc.dvd_of_dvd_mul_right ((ha _).1 h2)
    exact Nat.Coprime.mul_dvd_of_dvd_of_dvd hc d2 d1
  · rintro ⟨c, rfl⟩
    rw [mul_pow, Nat.mul_assoc, pow_mul, (ha m).2 (Nat.dvd_refl _), one_pow, F.one_mul, Nat.mul_left_comm, pow_mul, (hb n).2 (Nat.dvd_refl _), one_pow]
end Dom
/-! Primes. -/
def Prime (f : Nat) : Prop := 2 ≤ f ∧ ∀ d, d ∣ f → d = 1 ∨ d = f
theorem exists_prime : ∀ (n : Nat), 2 ≤ n → ∃ f, Prime f ∧ f ∣ n := by
  intro n
  induction n using Nat.strongRecOn with
  | ind n ih =>
    intro hn
    by_cases h : ∀ d, d ∣ n → d = 1 ∨ d = n
    · exact ⟨n, ⟨hn, h⟩, Nat.dvd_refl _⟩
    · simp only [Classical.not_forall, not_or] at h
      obtain ⟨d, hd, h1, h2⟩ := h
      have hle := Nat.le_of_dvd (by omega) hd
      have h0 : d ≠ 0 := by rintro rfl; rw [Nat.zero_dvd] at hd; omega
      obtain ⟨f, hf, hfd⟩ := ih d (by omega) (by omega)
      exact ⟨f, hf, Nat.dvd_trans hfd hd⟩
theorem Prime.coprime {f c : Nat} (hf : Prime f) (h : ¬ f ∣ c) : Nat.Coprime f c := by
  rcases hf.2 _ (Nat.gcd_dvd_left f c) with h1 | h1
  · exact h1
  · exact absurd (h1 ▸ Nat.gcd_dvd_right f c) h
theorem Prime.dvd_mul {f a b : Nat} (hf : Prime f) (h : f ∣ a * b) : f ∣ a ∨ f ∣ b := by
  by_cases ha : f ∣ a
  · exact .inl ha
  · exact .inr ((hf.coprime ha).dvd_of_dvd_mul_left h)
theorem Prime.dvd_pow {f e d : Nat} (hf : Prime f) (h : d ∣ f ^ (e + 1)) : d ∣ f ^ e ∨ d = f ^ (e + 1) := by
  obtain ⟨c, hc⟩ := h
  by_cases h1 : f ∣ c
  · obtain ⟨k, rfl⟩ := h1
    left
    refine ⟨k, ?_⟩
    have : f * f ^ e = f * (d * k) := by rw [← Nat.pow_succ', hc, Nat.mul_left_comm]
    exact Nat.eq_of_mul_eq_mul_left (by have := hf.1; omega) this
  · right
    have h2 : Nat.Coprime c (f ^ (e + 1)) := ((hf.coprime h1).symm).pow_right _
    have h3 : c ∣ f ^ (e + 1) := ⟨d, by rw [hc, Nat.mul_comm]⟩
    have h4 : c = 1 := Nat.Coprime.eq_one_of_dvd h2 h3
    rw [hc, h4, Nat.mul_one]
theorem lt_mul2 {f k : Nat} (hk : 0 < k) (hf : 2 ≤ f) : k < f * k := by
  have := Nat.mul_le_mul_right k hf
  omega
/-- The power of a prime in a number. -/
theorem Prime.part {f : Nat} (hf : Prime f) : ∀ (n : Nat), 0 < n → f ∣ n → ∃ e m, n = f ^ (e + 1) * m ∧ ¬ f ∣ m := by
  intro n
  induction n using Nat.strongRecOn with
  | ind n ih =>
    intro hn ⟨k, hk⟩
    have h2 := hf.1
    have hk0 : 0 < k := by rcases Nat.eq_zero_or_pos k with h | h; subst h; omega; exact h
    by_cases h : f ∣ k
    · obtain ⟨e, m, e1, e2⟩ := ih k (by rw [hk]; exact lt_mul2 hk0 h2) hk0 h
      exact ⟨e + 1, m, by rw [hk, e1, Nat.pow_succ f (e + 1), Nat.mul_comm (f ^ (e + 1)) f, Nat.mul_assoc], e2⟩
    · exact ⟨0, k, by rw [hk]; simp, h⟩
namespace Dom
theorem exists_ord {L : List α} (hL : F.All L) : ∀ (N : Nat), N ∣ L.length → 0 < L.length → ∃ a, a ≠ F.zero ∧ F.Ord a N := by
  intro N
  induction N using Nat.strongRecOn with
  | ind N ih =>
    intro hN hQ
    have hN0 : 0 < N := Nat.pos_of_dvd_of_pos hN hQ
    by_cases h1 : N = 1
    · subst h1
      exact ⟨F.one, F.one_ne, fun k => ⟨fun _ => Nat.one_dvd k, fun _ => F.one_pow k⟩⟩
    · obtain ⟨f, hf, hfN⟩ := exists_prime N (by omega)
      obtain ⟨e, m, he, hm⟩ := hf.part N hN0 hfN
      have h2 := hf.1
      have hm0 : 0 < m := by rcases Nat.eq_zero_or_pos m with h | h; subst h; omega; exact h
      obtain ⟨c, hc⟩ := hN
      have hc0 : 0 < c := by rcases Nat.eq_zero_or_pos c with h | h; subst h; omega; exact h
      have hlen : L.length = f ^ (e + 1) * (m * c) := by rw [hc, he, Nat.mul_assoc]
      have hlen2 : L.length = f * (f ^ e * (m * c)) := by rw [hlen, Nat.pow_succ', Nat.mul_assoc]
      have hpos : 0 < f ^ e * (m * c) := Nat.mul_pos (Nat.pow_pos (by omega)) (Nat.mul_pos hm0 hc0)
      obtain ⟨a, ha, hne⟩ : ∃ a, a ≠ F.zero ∧ F.pow a (f ^ e * (m * c)) ≠ F.one := by
        apply Classical.byContradiction
        intro hno
        have hall : ∀ a ∈ L, F.pow a (f ^ e * (m * c)) = F.one := fun a ha => by
          apply Classical.byContradiction
          intro hx
          exact hno ⟨a, (hL.mem a).1 ha, hx⟩
        have := F.roots_pow hpos L hL.nodup hall
        rw [hlen2] at this
        have h3 : f ^ e * (m * c) < f * (f ^ e * (m * c)) := lt_mul2 hpos h2
        omega
      have hb : F.Ord (F.pow a (m * c)) (f ^ (e + 1)) := by
        refine F.ord_prime (fun d hd => hf.dvd_pow hd) ?_ ?_
        · rw [← pow_mul, Nat.mul_comm, ← hlen]; exact F.fermat hL ha
        · rw [← pow_mul, Nat.mul_comm]; exact hne
      have hlt : m < N := by
        rw [he]
        exact lt_mul2 hm0 (Nat.le_trans h2 (by rw [Nat.pow_succ]; exact Nat.le_mul_of_pos_left _ (Nat.pow_pos (by omega))))
      obtain ⟨g, hg, hgo⟩ := ih m hlt ⟨f ^ (e + 1) * c, by rw [hlen]; exact Nat.mul_left_comm _ _ _⟩ hQ
      refine ⟨F.mul (F.pow a (m * c)) g, F.mul_ne (F.pow_ne ha _) hg, ?_⟩
      rw [he]
      exact F.ord_mul hb hgo (Nat.Coprime.pow_left _ (hf.coprime hm))
/-- A generator: an element whose order is that of all that are not 0. -/
theorem exists_gen {L : List α} (hL : F.All L) (h : 0 < L.length) : ∃ g, g ≠ F.zero ∧ F.Ord g L.length := F.exists_ord hL _ (Nat.dvd_refl _) h
/-- What tells a generator. -/
theorem ord_of_test {L : List α} (hL : F.All L) (h : 0 < L.length) {g : α} (hg : g ≠ F.zero) (ht : ∀ f, Prime f → f ∣ L.length → F.pow g (L.length / f) ≠ F.one) : F.Ord g L.length := by
  intro k
  constructor
  · intro hk
    have hd := F.pow_gcd _ _ hk (F.fermat hL hg)
    have hdv := Nat.gcd_dvd_right k L.length
    by_cases he : Nat.gcd k L.length = L.length
    · rw [← he]; exact Nat.gcd_dvd_left _ _
    · exfalso
      obtain ⟨c, hc⟩ := hdv
      have hc1 : c ≠ 1 := fun h1 => he (by rw [h1, Nat.mul_one] at hc; exact hc.symm)
      have hc0 : c ≠ 0 := fun h0 => by rw [h0, Nat.mul_zero] at hc; omega
      obtain ⟨f, hf, b, hb⟩ := exists_prime c (by omega)
      have h2 := hf.1
      have e2 : L.length = f * (Nat.gcd k L.length * b) := by
        conv => lhs; rw [hc, hb]
        exact Nat.mul_left_comm _ _ _
      refine ht f hf ⟨_, e2⟩ ?_
      have e : L.length / f = Nat.gcd k L.length * b := by
        generalize Nat.gcd k L.length * b = x at e2
        rw [e2]
        exact Nat.mul_div_cancel_left _ (by omega)
      rw [e, pow_mul, hd, one_pow]
  · rintro ⟨c, rfl⟩
    rw [pow_mul, F.fermat hL hg, one_pow]
theorem test_of_ord {g : α} {n f : Nat} (hn : 0 < n) (ho : F.Ord g n) (hf : 2 ≤ f) (hd : f ∣ n) : F.pow g (n / f) ≠ F.one := fun h => by
  have h1 := (ho _).1 h
  have h2 : 0 < n / f := Nat.div_pos (Nat.le_of_dvd hn hd) (by omega)
  have h3 := Nat.le_of_dvd h2 h1
  have h4 := Nat.div_lt_self hn (by omega : 1 < f)
  omega
/-- Powers below the order are different. -/
theorem pow_inj {g : α} {n : Nat} (hg : g ≠ F.zero) (ho : F.Ord g n) {i j : Nat} (hi : i < n) (hj : j < n) (h : F.pow g i = F.pow g j) : i = j := by
  have key : ∀ {i j : Nat}, i ≤ j → j < n → F.pow g i = F.pow g j → i = j := fun {i j} hij hj h => by
    obtain ⟨d, rfl⟩ := Nat.exists_eq_add_of_le hij
    rw [pow_add] at h
    have h1 : F.pow g d = F.one := F.mul_left_cancel (F.pow_ne hg i) (by rw [← h, F.mul_one])
    have h2 := (ho d).1 h1
    rcases Nat.eq_zero_or_pos d with h0 | h0
    · omega
    · have := Nat.le_of_dvd h0 h2; omega
  rcases Nat.le_total i j with hij | hij
  · exact key hij hj h
  · exact (key hij hi h.symm).symm
/-- Every element that is not 0 is a power of a generator. -/
theorem exists_log {L : List α} (hL : F.All L) {g : α} (hg : g ≠ F.zero) (ho : F.Ord g L.length) {a : α} (ha : a ≠ F.zero) : ∃ k, k < L.length ∧ F.pow g k = a := by
  have hnd : ((List.range L.length).map (F.pow g)).Nodup := by
    unfold List.Nodup
    rw [List.pairwise_map]
    refine List.pairwise_lt_range.imp_of_mem (fun {i j} hi hj hlt he => ?_)
    have := F.pow_inj hg ho (List.mem_range.1 hi) (List.mem_range.1 hj) he
    omega
  have hp := perm_of_sub (m := L) hnd (fun b hb => by
    obtain ⟨i, _, rfl⟩ := List.mem_map.1 hb
    exact (hL.mem _).2 (F.pow_ne hg i)) (by simp)
  have hm := hp.mem_iff.2 ((hL.mem a).2 ha)
  obtain ⟨k, hk, e⟩ := List.mem_map.1 hm
  exact ⟨k, List.mem_range.1 hk, e⟩
end Dom
end FFld
end Go.Proofs.Ytfhhnfpapgfnmaa

set_option linter.unusedVariables false
set_option linter.unusedSectionVars false
set_option linter.unusedSimpArgs false
namespace Go.Proofs.Ytfhhnfpapgfnmaa
namespace FFld
/-! Numbers as polynomials: their digits to the base p are the coefficients. -/
def dig (p a i : Nat) : Nat := a / p ^ i % p
theorem dig_zero (p a : Nat) : dig p a 0 = a % p := by simp [dig]
theorem dig_succ (p a i : Nat) : dig p a (i + 1) = dig p (a / p) i := by
  unfold dig
  rw [Nat.pow_succ', Nat.div_div_eq_div_mul]
theorem dig_lt {p : Nat} (hp : 0 < p) (a i : Nat) : dig p a i < p := Nat.mod_lt _ hp
theorem dig_mod (p a i : Nat) : dig p a i % p = dig p a i := Nat.mod_mod _ _
theorem dig_big {p a i : Nat} (h : a < p ^ i) : dig p a i = 0 := by
  unfold dig
  rw [Nat.div_eq_of_lt h, Nat.zero_mod]
theorem dig_of_zero (p i : Nat) : dig p 0 i = 0 := by simp [dig]
theorem div_lt_pow {p k a : Nat} (hp : 0 < p) (h : a < p ^ (k + 1)) : a / p < p ^ k := by
  rw [Nat.pow_succ] at h
  exact Nat.div_lt_of_lt_mul (by rw [Nat.mul_comm]; exact h)
theorem dig_ext {p : Nat} (hp : 0 < p) : ∀ (k a b : Nat), a < p ^ k → b < p ^ k → (∀ i, i < k → dig p a i = dig p b i) → a = b := by
  intro k
  induction k with
  | zero => intro a b ha hb _; simp at ha hb; omega
  | succ k ih =>
    intro a b ha hb h
    have h0 := h 0 (by omega)
    rw [dig_zero, dig_zero] at h0
    have h1 := ih (a / p) (b / p) (div_lt_pow hp ha) (div_lt_pow hp hb) (fun i hi => by rw [← dig_succ, ← dig_succ]; exact h (i + 1) (by omega))
    rw [← Nat.div_add_mod a p, ← Nat.div_add_mod b p, h0, h1]
/-- The number with digits f. -/
def ofd (p : Nat) (f : Nat → Nat) : Nat → Nat
  | 0 => 0
  | k + 1 => f 0 + p * ofd p (fun i => f (i + 1)) k
theorem ofd_lt {p : Nat} (hp : 0 < p) : ∀ (k : Nat) (f : Nat → Nat), (∀ i, f i < p) → ofd p f k < p ^ k := by
  intro k
  induction k with
  | zero => intro f _; simp [ofd]
  | succ k ih =>
    intro f h
    have h1 := ih (fun i => f (i + 1)) (fun i => h (i + 1))
    have h0 := h 0
    have h2 : p * (ofd p (fun i => f (i + 1)) k + 1) ≤ p * p ^ k := Nat.mul_le_mul_left p h1
    rw [Nat.mul_succ] at h2
    rw [Nat.pow_succ']
    simp only [ofd]
    omega
theorem dig_ofd {p : Nat} : ∀ (k : Nat) (f : Nat → Nat) (i : Nat), (∀ i, f i < p) → i < k → dig p (ofd p f k) i = f i := by
  intro k
  induction k with
  | zero => intro f i _ h; omega
  | succ k ih =>
    intro f i h hi
    have hp : 0 < p := Nat.lt_of_le_of_lt (Nat.zero_le _) (h 0)
    cases i with
    | zero => rw [dig_zero]; simp only [ofd]; rw [Nat.add_mul_mod_self_left]; exact Nat.mod_eq_of_lt (h 0)
    | succ i =>
      rw [dig_succ]
      have e : ofd p f (k + 1) / p = ofd p (fun i => f (i + 1)) k := by
        simp only [ofd]
        rw [Nat.add_mul_div_left _ _ hp, Nat.div_eq_of_lt (h 0), Nat.zero_add]
      rw [e, ih (fun i => f (i + 1)) i (fun i => h (i + 1)) (by omega)]
theorem ofd_congr {p : Nat} : ∀ (k : Nat) {f g : Nat → Nat}, (∀ i, i < k → f i = g i) → ofd p f k = ofd p g k := by
  intro k
  induction k with
  | zero => intro f g _; rfl
  | succ k ih => intro f g h; simp only [ofd]; rw [h 0 (by omega), ih (fun i hi => h (i + 1) (by omega))]
theorem ofd_dig {p : Nat} (hp : 0 < p) (k a : Nat) (h : a < p ^ k) : ofd p (dig p a) k = a :=
  dig_ext hp k _ _ (ofd_lt hp k _ fun i => dig_lt hp a i) h fun i hi => dig_ofd k _ i (fun i => dig_lt hp a i) hi
/-! Polynomials modulo one: the number m = p^k + .. has the digits of the modulus. -/
section
variable (p k m : Nat)
def padd (a b : Nat) : Nat := ofd p (fun i => (dig p a i + dig p b i) % p) k
def pscl (c a : Nat) : Nat := ofd p (fun i => (dig p a i * c) % p) k
def prv (a : Nat) : Nat → Nat
  | 0 => 0
  | j + 1 => dig p a j
/-- a times x. -/
def pshf (a : Nat) : Nat := ofd p (fun i => (prv p a i + dig p a (k - 1) * (p - dig p m i)) % p) k
/-- a times the polynomial of the digits of b. -/
def pmul (a : Nat) : Nat → Nat → Nat
  | 0, _ => 0
  | n + 1, b => padd p k (pscl p k (b % p) a) (pshf p k m (pmul a n (b / p)))
end
structure PK (p k m : Nat) : Prop where
  p2 : 2 ≤ p
  k1 : 1 ≤ k
section
variable {p k m : Nat} (h : PK p k m)
theorem PK.p0 (h : PK p k m) : 0 < p := by have := h.p2; omega
theorem PK.one_lt (h : PK p k m) : 1 < p ^ k := Nat.one_lt_pow (by have := h.k1; omega) h.p2
include h
theorem dig_padd (a b i : Nat) (hi : i < k) : dig p (padd p k a b) i = (dig p a i + dig p b i) % p := dig_ofd k _ i (fun _ => Nat.mod_lt _ h.p0) hi
theorem dig_pscl (c a i : Nat) (hi : i < k) : dig p (pscl p k c a) i = (dig p a i * c) % p := dig_ofd k _ i (fun _ => Nat.mod_lt _ h.p0) hi
theorem dig_pshf (a i : Nat) (hi : i < k) : dig p (pshf p k m a) i = (prv p a i + dig p a (k - 1) * (p - dig p m i)) % p := dig_ofd k _ i (fun _ => Nat.mod_lt _ h.p0) hi
theorem padd_lt (a b : Nat) : padd p k a b < p ^ k := ofd_lt h.p0 k _ fun _ => Nat.mod_lt _ h.p0
theorem pscl_lt (c a : Nat) : pscl p k c a < p ^ k := ofd_lt h.p0 k _ fun _ => Nat.mod_lt _ h.p0
theorem pshf_lt (a : Nat) : pshf p k m a < p ^ k := ofd_lt h.p0 k _ fun _ => Nat.mod_lt _ h.p0
theorem pmul_lt (a n b : Nat) : pmul p k m a n b < p ^ k := by
  cases n with
  | zero => exact Nat.pow_pos h.p0
  | succ n => exact padd_lt h _ _
theorem padd_comm (a b : Nat) : padd p k a b = padd p k b a := ofd_congr k fun i _ => by rw [Nat.add_comm]
theorem padd_assoc (a b c : Nat) : padd p k (padd p k a b) c = padd p k a (padd p k b c) := by
  refine dig_ext h.p0 k _ _ (padd_lt h _ _) (padd_lt h _ _) fun i hi => ?_
  rw [dig_padd h _ _ _ hi, dig_padd h _ _ _ hi, dig_padd h _ _ _ hi, dig_padd h _ _ _ hi, Nat.mod_add_mod, Nat.add_mod_mod, Nat.add_assoc]
theorem padd_zero (a : Nat) (ha : a < p ^ k) : padd p k a 0 = a := by
  refine dig_ext h.p0 k _ _ (padd_lt h _ _) ha fun i hi => ?_
  rw [dig_padd h _ _ _ hi, dig_of_zero, Nat.add_zero, dig_mod]
theorem padd4 (a b c d : Nat) : padd p k (padd p k a b) (padd p k c d) = padd p k (padd p k a c) (padd p k b d) := by
  rw [padd_assoc h, ← padd_assoc h b c d, padd_comm h b c, padd_assoc h c b d, ← padd_assoc h]
theorem pscl_zero (a : Nat) : pscl p k 0 a = 0 := by
  refine dig_ext h.p0 k _ _ (pscl_lt h _ _) (Nat.pow_pos h.p0) fun i hi => ?_
  rw [dig_pscl h _ _ _ hi, dig_of_zero, Nat.mul_zero, Nat.zero_mod]
theorem pscl_add (c a b : Nat) : pscl p k c (padd p k a b) = padd p k (pscl p k c a) (pscl p k c b) := by
  refine dig_ext h.p0 k _ _ (pscl_lt h _ _) (padd_lt h _ _) fun i hi => ?_
  rw [dig_pscl h _ _ _ hi, dig_padd h _ _ _ hi, dig_padd h _ _ _ hi, dig_pscl h _ _ _ hi, dig_pscl h _ _ _ hi, ← Nat.add_mod, ← Nat.add_mul, Nat.mod_mul_mod]
theorem pscl_comm (c d a : Nat) : pscl p k c (pscl p k d a) = pscl p k d (pscl p k c a) := by
  refine dig_ext h.p0 k _ _ (pscl_lt h _ _) (pscl_lt h _ _) fun i hi => ?_
  rw [dig_pscl h _ _ _ hi, dig_pscl h _ _ _ hi, dig_pscl h _ _ _ hi, dig_pscl h _ _ _ hi, Nat.mod_mul_mod, Nat.mod_mul_mod, Nat.mul_right_comm]
theorem pshf_add (a b : Nat) : pshf p k m (padd p k a b) = padd p k (pshf p k m a) (pshf p k m b) := by
  refine dig_ext h.p0 k _ _ (pshf_lt h _) (padd_lt h _ _) fun i hi => ?_
  have hk := h.k1
  rw [dig_pshf h _ _ hi, dig_padd h _ _ _ hi, dig_pshf h _ _ hi, dig_pshf h _ _ hi, dig_padd h _ _ _ (by omega), ← Nat.add_mod]
  generalize p - dig p m i = t
  generalize dig p a (k - 1) = x
  generalize dig p b (k - 1) = y
  cases i with
  | zero => simp only [prv, Nat.zero_add]; rw [Nat.mod_mul_mod, Nat.add_mul]
  | succ j =>
    simp only [prv]
    rw [dig_padd h _ _ _ (by omega)]
    generalize dig p a j = u
    generalize dig p b j = v
    rw [Nat.mod_add_mod, ← Nat.add_mod_mod, Nat.mod_mul_mod, Nat.add_mod_mod, Nat.add_mul]
    congr 1
    omega
theorem pshf_scl (c a : Nat) : pshf p k m (pscl p k c a) = pscl p k c (pshf p k m a) := by
  refine dig_ext h.p0 k _ _ (pshf_lt h _) (pscl_lt h _ _) fun i hi => ?_
  have hk := h.k1
  rw [dig_pshf h _ _ hi, dig_pscl h _ _ _ hi, dig_pshf h _ _ hi, dig_pscl h _ _ _ (by omega), Nat.mod_mul_mod]
  generalize p - dig p m i = t
  generalize dig p a (k - 1) = x
  cases i with
  | zero => simp only [prv, Nat.zero_add]; rw [Nat.mod_mul_mod, Nat.mul_right_comm]
  | succ j =>
    simp only [prv]
    rw [dig_pscl h _ _ _ (by omega)]
    generalize dig p a j = u
    rw [Nat.mod_add_mod, ← Nat.add_mod_mod, Nat.mod_mul_mod, Nat.add_mod_mod, Nat.add_mul, Nat.mul_right_comm]
theorem pshf_zero : pshf p k m 0 = 0 := by
  refine dig_ext h.p0 k _ _ (pshf_lt h _) (Nat.pow_pos h.p0) fun i hi => ?_
  rw [dig_pshf h _ _ hi, dig_of_zero, dig_of_zero, Nat.zero_mul, Nat.add_zero]
  cases i with
  | zero => exact Nat.zero_mod _
  | succ j => simp only [prv]; rw [dig_of_zero, Nat.zero_mod]
/-- Below the degree: the shift is a shift. -/
theorem pshf_low (a : Nat) (ha : a < p ^ (k - 1)) : pshf p k m a = p * a := by
  have hk := h.k1
  have hlt : p * a < p ^ k := by
    have : p * a < p * p ^ (k - 1) := (Nat.mul_lt_mul_left h.p0).2 ha
    rwa [← Nat.pow_succ', show (k - 1).succ = k from by omega] at this
  refine dig_ext h.p0 k _ _ (pshf_lt h _) hlt fun i hi => ?_
  rw [dig_pshf h _ _ hi, dig_big ha, Nat.zero_mul, Nat.add_zero]
  cases i with
  | zero => rw [dig_zero]; simp [prv]
  | succ j => rw [dig_succ, Nat.mul_div_cancel_left _ h.p0]; exact dig_mod _ _ _
theorem pmul_add (a b n c : Nat) : pmul p k m (padd p k a b) n c = padd p k (pmul p k m a n c) (pmul p k m b n c) := by
  induction n generalizing c with
  | zero => simp only [pmul]; rw [padd_zero h _ (Nat.pow_pos h.p0)]
  | succ n ih => simp only [pmul]; rw [ih, pscl_add h, pshf_add h, padd4 h]
theorem pmul_scl (d a n c : Nat) : pmul p k m (pscl p k d a) n c = pscl p k d (pmul p k m a n c) := by
  induction n generalizing c with
  | zero =>
    simp only [pmul]
    refine dig_ext h.p0 k _ _ (Nat.pow_pos h.p0) (pscl_lt h _ _) fun i hi => ?_
    rw [dig_pscl h _ _ _ hi, dig_of_zero, Nat.zero_mul, Nat.zero_mod]
  | succ n ih => simp only [pmul]; rw [ih, pscl_comm h, pshf_scl h, pscl_add h]
theorem pmul_shf (a n c : Nat) : pmul p k m (pshf p k m a) n c = pshf p k m (pmul p k m a n c) := by
  induction n generalizing c with
  | zero => simp only [pmul]; rw [pshf_zero h]
  | succ n ih => simp only [pmul]; rw [ih, pshf_add h, pshf_scl h]
theorem pmul_pmul (a n b i c : Nat) : pmul p k m (pmul p k m a i c) n b = pmul p k m (pmul p k m a n b) i c := by
  induction n generalizing b with
  | zero =>
    simp only [pmul]
    induction i generalizing c with
    | zero => rfl
    | succ i ih => simp only [pmul]; rw [← ih, pshf_zero h, padd_zero h _ (pscl_lt h _ _)]; refine dig_ext h.p0 k _ _ (Nat.pow_pos h.p0) (pscl_lt h _ _) fun j hj => ?_; rw [dig_pscl h _ _ _ hj, dig_of_zero, Nat.zero_mul, Nat.zero_mod]
  | succ n ih => simp only [pmul]; rw [ih, pmul_add h, pmul_scl h, pmul_shf h]
theorem pmul_one (n : Nat) (hn : n ≤ k) : ∀ b, b < p ^ n → pmul p k m 1 n b = b := by
  have hk := h.k1
  induction n with
  | zero => intro b hb; simp at hb; subst hb; rfl
  | succ n ih =>
    intro b hb
    have hb' := div_lt_pow h.p0 hb
    simp only [pmul]
    rw [ih (by omega) _ hb', pshf_low h _ (Nat.lt_of_lt_of_le hb' (Nat.pow_le_pow_right h.p0 (by omega)))]
    have hbk : b < p ^ k := Nat.lt_of_lt_of_le hb (Nat.pow_le_pow_right h.p0 hn)
    refine dig_ext h.p0 k _ _ (padd_lt h _ _) hbk fun i hi => ?_
    rw [dig_padd h _ _ _ hi, dig_pscl h _ _ _ hi]
    have hp2 := h.p2
    cases i with
    | zero => simp only [dig_zero]; rw [Nat.mod_eq_of_lt (show 1 < p by omega), Nat.one_mul, Nat.mul_mod_right, Nat.add_zero, Nat.mod_mod, Nat.mod_mod]
    | succ i => rw [dig_succ p 1, Nat.div_eq_of_lt (show 1 < p by omega), dig_of_zero, Nat.zero_mul, Nat.zero_mod, Nat.zero_add, dig_succ p (p * _), Nat.mul_div_cancel_left _ h.p0, dig_succ p b, dig_mod]
theorem pmul_comm (a b : Nat) (ha : a < p ^ k) (hb : b < p ^ k) : pmul p k m a k b = pmul p k m b k a := by
  conv => lhs; rw [← pmul_one h k (Nat.le_refl _) a ha]
  rw [pmul_pmul h, pmul_one h k (Nat.le_refl _) b hb]
theorem pmul_assoc (a b c : Nat) (ha : a < p ^ k) (hb : b < p ^ k) (hc : c < p ^ k) : pmul p k m (pmul p k m a k b) k c = pmul p k m a k (pmul p k m b k c) := by
  rw [pmul_comm h a b ha hb, pmul_pmul h, pmul_comm h _ a (pmul_lt h _ _ _) ha]
theorem pmul_by_one (a : Nat) (ha : a < p ^ k) : pmul p k m a k 1 = a := by
  rw [pmul_comm h a 1 ha h.one_lt, pmul_one h k (Nat.le_refl _) a ha]
theorem padd_neg (a : Nat) : padd p k a (pscl p k (p - 1) a) = 0 := by
  refine dig_ext h.p0 k _ _ (padd_lt h _ _) (Nat.pow_pos h.p0) fun i hi => ?_
  rw [dig_padd h _ _ _ hi, dig_pscl h _ _ _ hi, dig_of_zero, Nat.add_mod_mod]
  have hp2 := h.p2
  have : dig p a i + dig p a i * (p - 1) = dig p a i * p := by
    obtain ⟨r, rfl⟩ : ∃ r, p = r + 1 := ⟨p - 1, by omega⟩
    simp only [Nat.add_sub_cancel]
    rw [Nat.mul_succ, Nat.add_comm]
  rw [this, Nat.mul_mod_left]
theorem pmul_zero_right (a n : Nat) : pmul p k m a n 0 = 0 := by
  induction n with
  | zero => rfl
  | succ n ih => simp only [pmul, Nat.zero_mod, Nat.zero_div]; rw [ih, pshf_zero h, pscl_zero h, padd_zero h _ (Nat.pow_pos h.p0)]
end
/-! Lists of coefficients, evaluated at x modulo a polynomial. -/
/-- The number with these digits. -/
def num (p : Nat) : List Nat → Nat
  | [] => 0
  | c :: l => c + p * num p l
theorem num_lt {p : Nat} (hp : 0 < p) : ∀ (l : List Nat), (∀ c ∈ l, c < p) → num p l < p ^ l.length := by
  intro l
  induction l with
  | nil => intro _; simp [num]
  | cons c l ih =>
    intro h
    have h1 := ih (fun d hd => h d (List.mem_cons_of_mem _ hd))
    have h0 := h c List.mem_cons_self
    have h2 : p * (num p l + 1) ≤ p * p ^ l.length := Nat.mul_le_mul_left p h1
    rw [Nat.mul_succ] at h2
    rw [List.length_cons, Nat.pow_succ']
    simp only [num]
    omega
section
variable (p k m : Nat)
def evl (a : Nat) : List Nat → Nat
  | [] => 0
  | c :: l => padd p k (pscl p k c a) (pshf p k m (evl a l))
/-- a times x ^ j. -/
def shn (a : Nat) : Nat → Nat
  | 0 => a
  | j + 1 => pshf p k m (shn a j)
end
section
variable {p k m : Nat} (h : PK p k m)
include h
theorem evl_lt (a : Nat) (l : List Nat) : evl p k m a l < p ^ k := by
  cases l with
  | nil => exact Nat.pow_pos h.p0
  | cons c l => exact padd_lt h _ _
theorem shn_lt {a : Nat} (ha : a < p ^ k) (j : Nat) : shn p k m a j < p ^ k := by
  cases j with
  | zero => exact ha
  | succ j => exact pshf_lt h _
theorem shn_add (a b j : Nat) : shn p k m (padd p k a b) j = padd p k (shn p k m a j) (shn p k m b j) := by
  induction j with
  | zero => rfl
  | succ j ih => simp only [shn]; rw [ih, pshf_add h]
theorem shn_scl (c a j : Nat) : shn p k m (pscl p k c a) j = pscl p k c (shn p k m a j) := by
  induction j with
  | zero => rfl
  | succ j ih => simp only [shn]; rw [ih, pshf_scl h]
theorem shn_zero (j : Nat) : shn p k m 0 j = 0 := by
  induction j with
  | zero => rfl
  | succ j ih => simp only [shn]; rw [ih, pshf_zero h]
theorem shn_shf (a j : Nat) : shn p k m (pshf p k m a) j = pshf p k m (shn p k m a j) := by
  induction j with
  | zero => rfl
  | succ j ih => simp only [shn]; rw [ih]
theorem shn_shn (a i j : Nat) : shn p k m (shn p k m a i) j = shn p k m a (i + j) := by
  induction j with
  | zero => rfl
  | succ j ih => rw [← Nat.add_assoc]; simp only [shn]; rw [ih]
theorem pscl_mod (c a : Nat) : pscl p k (c % p) a = pscl p k c a := by
  refine dig_ext h.p0 k _ _ (pscl_lt h _ _) (pscl_lt h _ _) fun i hi => ?_
  rw [dig_pscl h _ _ _ hi, dig_pscl h _ _ _ hi, Nat.mul_mod_mod]
theorem pscl_sum (c d a : Nat) : pscl p k (c + d) a = padd p k (pscl p k c a) (pscl p k d a) := by
  refine dig_ext h.p0 k _ _ (pscl_lt h _ _) (padd_lt h _ _) fun i hi => ?_
  rw [dig_padd h _ _ _ hi, dig_pscl h _ _ _ hi, dig_pscl h _ _ _ hi, dig_pscl h _ _ _ hi, ← Nat.add_mod, Nat.mul_add]
theorem pscl_pscl (c d a : Nat) : pscl p k c (pscl p k d a) = pscl p k (c * d) a := by
  refine dig_ext h.p0 k _ _ (pscl_lt h _ _) (pscl_lt h _ _) fun i hi => ?_
  rw [dig_pscl h _ _ _ hi, dig_pscl h _ _ _ hi, dig_pscl h _ _ _ hi, Nat.mod_mul_mod, Nat.mul_assoc, Nat.mul_comm d c]
theorem pscl_nil (c : Nat) : pscl p k c 0 = 0 := by
  refine dig_ext h.p0 k _ _ (pscl_lt h _ _) (Nat.pow_pos h.p0) fun i hi => ?_
  rw [dig_pscl h _ _ _ hi, dig_of_zero, Nat.zero_mul, Nat.zero_mod]
theorem pscl_one (a : Nat) (ha : a < p ^ k) : pscl p k 1 a = a := by
  refine dig_ext h.p0 k _ _ (pscl_lt h _ _) ha fun i hi => ?_
  rw [dig_pscl h _ _ _ hi, Nat.mul_one, dig_mod]
theorem padd_nil (a : Nat) (ha : a < p ^ k) : padd p k 0 a = a := by rw [padd_comm h, padd_zero h _ ha]
/-- One coefficient grows. -/
theorem evl_set (a c : Nat) : ∀ (l : List Nat) (j : Nat), j < l.length → evl p k m a (l.set j ((l[j]?.getD 0 + c) % p)) = padd p k (evl p k m a l) (pscl p k c (shn p k m a j)) := by
  intro l
  induction l with
  | nil => intro j hj; simp at hj
  | cons d l ih =>
    intro j hj
    cases j with
    | zero =>
      simp only [List.set_cons_zero, evl, List.getElem?_cons_zero, Option.getD_some, shn]
      rw [pscl_mod h, pscl_sum h, padd_assoc h, padd_comm h (pscl p k c a), ← padd_assoc h]
    | succ j =>
      simp only [List.set_cons_succ, evl, List.getElem?_cons_succ, shn]
      rw [ih j (by simpa using hj), pshf_add h, pshf_scl h, ← padd_assoc h]
theorem evl_zeros (a n : Nat) : evl p k m a (List.replicate n 0) = 0 := by
  induction n with
  | zero => rfl
  | succ n ih => simp only [List.replicate_succ, evl]; rw [ih, pshf_zero h, pscl_zero h, padd_zero h _ (Nat.pow_pos h.p0)]
theorem evl_snoc (a c : Nat) (l : List Nat) : evl p k m a (l ++ [c]) = padd p k (evl p k m a l) (pscl p k c (shn p k m a l.length)) := by
  induction l with
  | nil =>
    simp only [List.nil_append, evl, List.length_nil, shn]
    rw [pshf_zero h, padd_zero h _ (pscl_lt h _ _), padd_nil h _ (pscl_lt h _ _)]
  | cons d l ih =>
    simp only [List.cons_append, evl, List.length_cons, shn]
    rw [ih, pshf_add h, pshf_scl h, padd_assoc h]
theorem evl_trim (a : Nat) (l : List Nat) : evl p k m a (l ++ [0]) = evl p k m a l := by
  rw [evl_snoc h, pscl_zero h, padd_zero h _ (evl_lt h _ _)]
theorem evl_pmul (a : Nat) : ∀ (l : List Nat) (n : Nat), (∀ c ∈ l, c < p) → l.length ≤ n → pmul p k m a n (num p l) = evl p k m a l := by
  intro l
  induction l with
  | nil => intro n _ _; simp only [num, evl]; exact pmul_zero_right h a n
  | cons c l ih =>
    intro n hc hn
    cases n with
    | zero => simp at hn
    | succ n =>
      have h0 := hc c List.mem_cons_self
      simp only [num, pmul, evl]
      rw [Nat.add_mul_mod_self_left, Nat.mod_eq_of_lt h0, Nat.add_mul_div_left _ _ h.p0, Nat.div_eq_of_lt h0, Nat.zero_add, ih n (fun d hd => hc d (List.mem_cons_of_mem _ hd)) (by simpa using hn)]
/-- A list as long as the degree is its own value at x. -/
theorem evl_one (l : List Nat) (hc : ∀ c ∈ l, c < p) (hl : l.length ≤ k) : evl p k m 1 l = num p l := by
  rw [← evl_pmul h 1 l k hc hl]
  exact pmul_one h k (Nat.le_refl _) _ (Nat.lt_of_lt_of_le (num_lt h.p0 l hc) (Nat.pow_le_pow_right h.p0 hl))
theorem shn_one (j : Nat) (hj : j < k) : shn p k m 1 j = p ^ j := by
  induction j with
  | zero => rfl
  | succ j ih =>
    simp only [shn]
    rw [ih (by omega), pshf_low h _ (Nat.pow_lt_pow_right h.p2 (by omega)), Nat.pow_succ']
/-- The modulus is 0 at x. -/
theorem evl_modulus (l : List Nat) (hc : ∀ c ∈ l, c < p) (hl : l.length = k) (hm : m = num p (l ++ [1])) : evl p k m 1 (l ++ [1]) = 0 := by
  have hk := h.k1
  have hp2 := h.p2
  rw [evl_snoc h, evl_one h l hc (by omega), hl, pscl_one h _ (shn_lt h h.one_lt _)]
  obtain ⟨j, rfl⟩ : ∃ j, k = j + 1 := ⟨k - 1, by omega⟩
  simp only [shn]
  rw [shn_one h j (by omega)]
  have happ : ∀ l : List Nat, num p (l ++ [1]) = num p l + p ^ l.length := by
    intro l
    induction l with
    | nil => simp [num]
    | cons c l ih => simp only [List.cons_append, num, ih, List.length_cons, Nat.pow_succ', Nat.mul_add]; omega
  rw [happ, hl] at hm
  refine dig_ext h.p0 (j + 1) _ _ (padd_lt h _ _) (Nat.pow_pos h.p0) fun i hi => ?_
  rw [dig_padd h _ _ _ hi, dig_pshf h _ _ hi, dig_of_zero]
  have hprv : prv p (p ^ j) i = 0 := by
    cases i with
    | zero => rfl
    | succ i =>
      simp only [prv]
      unfold dig
      rw [Nat.pow_div (by omega) h.p0]
      obtain ⟨r, hr⟩ : ∃ r, j - i = r + 1 := ⟨j - i - 1, by omega⟩
      rw [hr, Nat.pow_succ, Nat.mul_mod_left]
  have htop : dig p (p ^ j) (j + 1 - 1) = 1 := by
    unfold dig
    rw [show j + 1 - 1 = j from rfl, Nat.div_self (Nat.pow_pos h.p0), Nat.mod_eq_of_lt hp2]
  have hdm : dig p m i = dig p (num p l) i := by
    rw [hm]
    unfold dig
    obtain ⟨r, hr⟩ : ∃ r, j + 1 = i + (r + 1) := ⟨j - i, by omega⟩
    rw [hr, Nat.pow_add, Nat.add_mul_div_left _ _ (Nat.pow_pos h.p0), Nat.pow_succ', Nat.add_mul_mod_self_left]
  rw [hprv, htop, hdm, Nat.zero_add, Nat.one_mul, Nat.add_mod_mod]
  have := dig_lt h.p0 (num p l) i
  rw [show dig p (num p l) i + (p - dig p (num p l) i) = p from by omega, Nat.mod_self]
theorem num_snoc (c : Nat) (l : List Nat) : num p (l ++ [c]) = num p l + p ^ l.length * c := by
  induction l with
  | nil => simp [num]
  | cons d l ih => simp only [List.cons_append, num, ih, List.length_cons, Nat.pow_succ', Nat.mul_add, Nat.mul_assoc]; omega
theorem take_snoc (l : List Nat) (j : Nat) (hj : j < l.length) : l.take (j + 1) = l.take j ++ [l[j]?.getD 0] := by
  rw [List.take_add_one]
  simp [hj]
/-- One step of a row: what is added to the list is c times the beginning of y, moved by i. -/
theorem evl_row (a c i : Nat) (x y : List Nat) (E : Nat) (j : Nat) (hj : j < y.length) (hx : i + j < x.length) (he : evl p k m a x = padd p k E (pscl p k c (shn p k m (evl p k m a (y.take j)) i))) :
    evl p k m a (x.set (i + j) ((x[i + j]?.getD 0 + c * y[j]?.getD 0) % p)) = padd p k E (pscl p k c (shn p k m (evl p k m a (y.take (j + 1))) i)) := by
  rw [evl_set h a _ x _ hx, he, take_snoc h y j hj, evl_snoc h, shn_add h, shn_scl h, shn_shn h, pscl_add h, pscl_pscl h, padd_assoc h]
  congr 3
  rw [List.length_take, Nat.min_eq_left (by omega), Nat.add_comm]
end
end FFld
end Go.Proofs.Ytfhhnfpapgfnmaa

set_option linter.unusedVariables false
set_option linter.unusedSectionVars false
set_option linter.unusedSimpArgs false
namespace Go.Proofs.Ytfhhnfpapgfnmaa
namespace FFld
/-! The ring of the numbers below p^k; where an element has all powers, there are no divisors of 0. -/
structure Rng (α : Type) where
  add : α → α → α
  mul : α → α → α
  zero : α
  one : α
  neg : α → α
  add_assoc : ∀ a b c, add (add a b) c = add a (add b c)
  add_comm : ∀ a b, add a b = add b a
  add_zero : ∀ a, add a zero = a
  add_neg : ∀ a, add a (neg a) = zero
  mul_assoc : ∀ a b c, mul (mul a b) c = mul a (mul b c)
  mul_comm : ∀ a b, mul a b = mul b a
  mul_one : ∀ a, mul a one = a
  mul_add : ∀ a b c, mul a (add b c) = add (mul a b) (mul a c)
  one_ne : one ≠ zero
namespace Rng
variable {α : Type} (F : Rng α)
def dom (h : ∀ a b, F.mul a b = F.zero → a = F.zero ∨ b = F.zero) : Dom α where
  add := F.add
  mul := F.mul
  zero := F.zero
  one := F.one
  neg := F.neg
  add_assoc := F.add_assoc
  add_comm := F.add_comm
  add_zero := F.add_zero
  add_neg := F.add_neg
  mul_assoc := F.mul_assoc
  mul_comm := F.mul_comm
  mul_one := F.mul_one
  mul_add := F.mul_add
  nzd := h
  one_ne := F.one_ne
theorem one_mul (a : α) : F.mul F.one a = a := by rw [F.mul_comm, F.mul_one]
theorem mul_zero (a : α) : F.mul a F.zero = F.zero := by
  have h : F.add (F.mul a F.zero) (F.mul a F.zero) = F.add (F.mul a F.zero) F.zero := by
    rw [← F.mul_add, F.add_zero, F.add_zero]
  have h1 : F.add (F.neg (F.mul a F.zero)) (F.add (F.mul a F.zero) (F.mul a F.zero)) = F.add (F.neg (F.mul a F.zero)) (F.add (F.mul a F.zero) F.zero) := by rw [h]
  rw [← F.add_assoc, ← F.add_assoc, F.add_comm (F.neg _) (F.mul a F.zero), F.add_neg, F.add_zero, F.add_comm, F.add_zero] at h1
  exact h1
def pow (a : α) : Nat → α
  | 0 => F.one
  | n + 1 => F.mul (pow a n) a
theorem pow_add (a : α) (m n : Nat) : F.pow a (m + n) = F.mul (F.pow a m) (F.pow a n) := by
  induction n with
  | zero => simp only [Nat.add_zero, pow]; rw [F.mul_one]
  | succ n ih => rw [← Nat.add_assoc]; simp only [pow]; rw [ih, F.mul_assoc]
theorem one_pow (n : Nat) : F.pow F.one n = F.one := by
  induction n with
  | zero => rfl
  | succ n ih => simp only [pow]; rw [ih, F.mul_one]
theorem pow_mul (a : α) (m n : Nat) : F.pow a (m * n) = F.pow (F.pow a m) n := by
  induction n with
  | zero => rfl
  | succ n ih => rw [Nat.mul_succ, pow_add, ih]; rfl
theorem pow_gcd {a : α} : ∀ (m n : Nat), F.pow a m = F.one → F.pow a n = F.one → F.pow a (Nat.gcd m n) = F.one := by
  intro m
  induction m using Nat.strongRecOn with
  | ind m ih =>
    intro n hm hn
    rcases Nat.eq_zero_or_pos m with h | h
    · subst h; rw [Nat.gcd_zero_left]; exact hn
    · rw [Nat.gcd_rec]
      refine ih _ (Nat.mod_lt _ h) _ ?_ hm
      have e := Nat.div_add_mod n m
      rw [← e, pow_add, pow_mul, hm, one_pow, F.one_mul] at hn
      exact hn
theorem nzd_of_gen {L : List α} (hnd : L.Nodup) (hmem : ∀ a, a ∈ L ↔ a ≠ F.zero) (hL : 0 < L.length) {g : α} (h1 : F.pow g L.length = F.one) (ht : ∀ f, Prime f → f ∣ L.length → F.pow g (L.length / f) ≠ F.one) :
    ∀ a b, F.mul a b = F.zero → a = F.zero ∨ b = F.zero := by
  have hunit : ∀ i, i ≤ L.length → F.mul (F.pow g i) (F.pow g (L.length - i)) = F.one := fun i hi => by rw [← pow_add, show i + (L.length - i) = L.length from by omega, h1]
  have hne : ∀ i, i ≤ L.length → F.pow g i ≠ F.zero := fun i hi h => by
    have := hunit i hi
    rw [h, F.mul_comm, F.mul_zero] at this
    exact F.one_ne this.symm
  have hord : ∀ d, 0 < d → d < L.length → F.pow g d ≠ F.one := fun d h0 hd he => by
    have hg := F.pow_gcd _ _ he h1
    have hdv := Nat.gcd_dvd_right d L.length
    have hle := Nat.le_of_dvd h0 (Nat.gcd_dvd_left d L.length)
    obtain ⟨c, hc⟩ := hdv
    have hc1 : c ≠ 1 := fun h1 => by rw [h1, Nat.mul_one] at hc; omega
    have hc0 : c ≠ 0 := fun h0 => by rw [h0, Nat.mul_zero] at hc; omega
    obtain ⟨f, hf, b, hb⟩ := exists_prime c (by omega)
    have h2 := hf.1
    have e2 : L.length = f * (Nat.gcd d L.length * b) := by
      conv => lhs; rw [hc, hb]
      exact Nat.mul_left_comm _ _ _
    refine ht f hf ⟨_, e2⟩ ?_
    have e : L.length / f = Nat.gcd d L.length * b := by
      generalize Nat.gcd d L.length * b = x at e2
      rw [e2]
      exact Nat.mul_div_cancel_left _ (by omega)
    rw [e, pow_mul, hg, one_pow]
  have hinj : ∀ i j, i < j → j < L.length → F.pow g i ≠ F.pow g j := fun i j hij hj h => by
    have e := hunit i (by omega)
    rw [h, ← pow_add, show j + (L.length - i) = L.length + (j - i) from by omega, pow_add, h1, F.one_mul] at e
    exact hord (j - i) (by omega) (by omega) e
  have hpnd : ((List.range L.length).map (F.pow g)).Nodup := by
    unfold List.Nodup
    rw [List.pairwise_map]
    refine List.pairwise_lt_range.imp_of_mem (fun {i j} hi hj hlt => hinj i j hlt (List.mem_range.1 hj))
  have hp := perm_of_sub (m := L) hpnd (fun b hb => by
    obtain ⟨i, hi, rfl⟩ := List.mem_map.1 hb
    exact (hmem _).2 (hne i (Nat.le_of_lt (List.mem_range.1 hi)))) (by simp)
  have hlog : ∀ a, a ≠ F.zero → ∃ i, i < L.length ∧ F.pow g i = a := fun a ha => by
    obtain ⟨i, hi, e⟩ := List.mem_map.1 (hp.mem_iff.2 ((hmem a).2 ha))
    exact ⟨i, List.mem_range.1 hi, e⟩
  intro a b hab
  rcases Classical.em (a = F.zero) with ha | ha
  · exact .inl ha
  · right
    obtain ⟨i, hi, rfl⟩ := hlog a ha
    have : F.mul (F.pow g (L.length - i)) (F.mul (F.pow g i) b) = b := by rw [← F.mul_assoc, F.mul_comm (F.pow g (L.length - i)), hunit i (by omega), F.one_mul]
    rw [← this, hab, F.mul_zero]
end Rng
/-! The numbers below q. -/
abbrev El (q : Nat) : Type := {a : Nat // a < q}
def rng {p k m : Nat} (h : PK p k m) : Rng (El (p ^ k)) where
  add a b := ⟨padd p k a.1 b.1, padd_lt h _ _⟩
  mul a b := ⟨pmul p k m a.1 k b.1, pmul_lt h _ _ _⟩
  zero := ⟨0, Nat.pow_pos h.p0⟩
  one := ⟨1, h.one_lt⟩
  neg a := ⟨pscl p k (p - 1) a.1, pscl_lt h _ _⟩
  add_assoc a b c := Subtype.ext (padd_assoc h _ _ _)
  add_comm a b := Subtype.ext (padd_comm h _ _)
  add_zero a := Subtype.ext (padd_zero h _ a.2)
  add_neg a := Subtype.ext (padd_neg h _)
  mul_assoc a b c := Subtype.ext (pmul_assoc h _ _ _ a.2 b.2 c.2)
  mul_comm a b := Subtype.ext (pmul_comm h _ _ a.2 b.2)
  mul_one a := Subtype.ext (pmul_by_one h _ a.2)
  mul_add a b c := Subtype.ext (by
    show pmul p k m a.1 k (padd p k b.1 c.1) = padd p k (pmul p k m a.1 k b.1) (pmul p k m a.1 k c.1)
    rw [pmul_comm h _ _ a.2 (padd_lt h _ _), pmul_add h, pmul_comm h b.1 _ b.2 a.2, pmul_comm h c.1 _ c.2 a.2])
  one_ne := fun e => by simpa using congrArg Subtype.val e
def nzl (q : Nat) : List (El q) := (List.range (q - 1)).pmap (fun i h => ⟨i + 1, by omega⟩) (fun i hi => (by have := List.mem_range.1 hi; omega : i < q - 1))
theorem nzl_len (q : Nat) : (nzl q).length = q - 1 := by simp [nzl]
theorem nzl_mem {q : Nat} (a : El q) : a ∈ nzl q ↔ a.1 ≠ 0 := by
  simp only [nzl, List.mem_pmap, List.mem_range]
  constructor
  · rintro ⟨i, hi, rfl⟩; simp
  · intro h
    have := a.2
    exact ⟨a.1 - 1, by omega, Subtype.ext (by simp; omega)⟩
theorem nzl_nodup (q : Nat) : (nzl q).Nodup := by
  unfold nzl
  exact List.Pairwise.pmap List.nodup_range _ (fun a ha b hb h e => h (by have := congrArg Subtype.val e; simp at this; omega))
/-! Primes. -/
theorem nzd_prime {p m : Nat} (h : PK p 1 m) (hp : Prime p) (hm : m % p = 0) : ∀ a b, (rng h).mul a b = (rng h).zero → a = (rng h).zero ∨ b = (rng h).zero := by
  intro a b e
  have e1 : pmul p 1 m a.1 1 b.1 = 0 := congrArg Subtype.val e
  have ha : a.1 < p := by simpa using a.2
  have hb : b.1 < p := by simpa using b.2
  have e2 : pmul p 1 m a.1 1 b.1 = a.1 * b.1 % p := by
    have hh := pmul_lt h a.1 1 b.1
    have hd : dig p (pmul p 1 m a.1 1 b.1) 0 = a.1 * b.1 % p := by
      simp only [pmul]
      rw [pshf_zero h, padd_zero h _ (pscl_lt h _ _), dig_pscl h _ _ _ (by omega), dig_zero, Nat.mod_eq_of_lt hb, Nat.mod_mul_mod]
    rw [dig_zero, Nat.mod_eq_of_lt (by simpa using hh)] at hd
    exact hd
  rw [e2] at e1
  rcases hp.dvd_mul (Nat.dvd_of_mod_eq_zero e1) with h1 | h1
  · left; exact Subtype.ext (by show a.1 = 0; rcases Nat.eq_zero_or_pos a.1 with h0 | h0; exact h0; have := Nat.le_of_dvd h0 h1; omega)
  · right; exact Subtype.ext (by show b.1 = 0; rcases Nat.eq_zero_or_pos b.1 with h0 | h0; exact h0; have := Nat.le_of_dvd h0 h1; omega)
/-! Certificates. -/
def pwF (p k m : Nat) : Nat → Nat → Nat → Nat → Nat
  | 0, r, _, _ => r
  | f + 1, r, a, n => if n = 0 then r else pwF p k m f (if n % 2 = 1 then pmul p k m r k a else r) (pmul p k m a k a) (n / 2)
def isP (f : Nat) : Bool := Nat.ble 2 f && (List.range f).all (fun d => Nat.ble d 1 || f % d != 0)
def strip (f : Nat) : Nat → Nat → Nat
  | 0, n => n
  | e + 1, n => if n % f = 0 then strip f e (n / f) else n
def gcert (p k m g : Nat) (fs : List Nat) : Bool :=
  (fs.foldl (fun n f => strip f 17 n) (p ^ k - 1) == 1) && fs.all isP && Nat.blt g (p ^ k) && pwF p k m 17 1 g (p ^ k - 1) == 1 && fs.all (fun f => pwF p k m 17 1 g ((p ^ k - 1) / f) != 1)
theorem isP_prime {f : Nat} (h : isP f = true) : Prime f := by
  simp only [isP, Bool.and_eq_true, List.all_eq_true, List.mem_range, Bool.or_eq_true, bne_iff_ne, Nat.ble_eq] at h
  refine ⟨h.1, fun d hd => ?_⟩
  have hle := Nat.le_of_dvd (by omega) hd
  by_cases e : d = f
  · exact .inr e
  · left
    rcases h.2 d (by omega) with h1 | h1
    · have : d ≠ 0 := fun h0 => by subst h0; rw [Nat.zero_dvd] at hd; omega
      omega
    · exact absurd (Nat.mod_eq_zero_of_dvd hd) h1
theorem strip_dvd {f r : Nat} (hr : Prime r) : ∀ (e n : Nat), r ∣ n → r ∣ f ∨ r ∣ strip f e n := by
  intro e
  induction e with
  | zero => intro n h; exact .inr h
  | succ e ih =>
    intro n h
    simp only [strip]
    by_cases h0 : n % f = 0
    · rw [if_pos h0]
      have e1 : n = f * (n / f) := (Nat.mul_div_cancel' (Nat.dvd_of_mod_eq_zero h0)).symm
      rw [e1] at h
      rcases hr.dvd_mul h with h1 | h1
      · exact .inl h1
      · exact ih _ h1
    · rw [if_neg h0]; exact .inr h
theorem fold_dvd {r : Nat} (hr : Prime r) : ∀ (fs : List Nat) (n : Nat), fs.all isP = true → fs.foldl (fun n f => strip f 17 n) n = 1 → r ∣ n → r ∈ fs := by
  intro fs
  induction fs with
  | nil => intro n _ h1 h; simp only [List.foldl_nil] at h1; subst h1; have := Nat.le_of_dvd (by omega) h; have := hr.1; omega
  | cons f fs ih =>
    intro n ha h1 h
    simp only [List.all_cons, Bool.and_eq_true] at ha
    rcases strip_dvd (f := f) hr 17 n h with h2 | h2
    · rcases (isP_prime ha.1).2 r h2 with h3 | h3
      · have := hr.1; omega
      · rw [h3]; exact List.mem_cons_self
    · exact List.mem_cons_of_mem _ (ih _ ha.2 h1 h2)
theorem pwF_pow {p k m : Nat} (h : PK p k m) : ∀ (f r a n : Nat) (hr : r < p ^ k) (ha : a < p ^ k), n < 2 ^ f → pwF p k m f r a n = ((rng h).mul ⟨r, hr⟩ ((rng h).pow ⟨a, ha⟩ n)).1 := by
  intro f
  induction f with
  | zero =>
    intro r a n hr ha hn
    have : n = 0 := by simp at hn; omega
    subst this
    simp only [pwF, Rng.pow]
    rw [(rng h).mul_one]
  | succ f ih =>
    intro r a n hr ha hn
    simp only [pwF]
    by_cases h0 : n = 0
    · rw [if_pos h0]; subst h0; simp only [Rng.pow]; rw [(rng h).mul_one]
    · rw [if_neg h0]
      have hn2 : n / 2 < 2 ^ f := by rw [Nat.pow_succ] at hn; omega
      have haa : (rng h).pow (⟨pmul p k m a k a, pmul_lt h _ _ _⟩) (n / 2) = (rng h).pow ⟨a, ha⟩ (2 * (n / 2)) := by
        rw [(rng h).pow_mul]
        congr 1
        simp only [Rng.pow]
        rw [(rng h).one_mul]
        rfl
      by_cases h1 : n % 2 = 1
      · rw [if_pos h1, ih _ _ _ (pmul_lt h _ _ _) (pmul_lt h _ _ _) hn2, haa]
        have e : n = 1 + 2 * (n / 2) := by omega
        conv => rhs; rw [e, (rng h).pow_add]
        have e1 : (rng h).pow ⟨a, ha⟩ 1 = ⟨a, ha⟩ := by simp only [Rng.pow]; rw [(rng h).one_mul]
        rw [e1, ← (rng h).mul_assoc]
        rfl
      · rw [if_neg h1, ih _ _ _ hr (pmul_lt h _ _ _) hn2, haa, show 2 * (n / 2) = n from by omega]
theorem nzd_cert {p k m g : Nat} {fs : List Nat} (h : PK p k m) (hq : p ^ k ≤ 65536) (hc : gcert p k m g fs = true) : ∀ a b, (rng h).mul a b = (rng h).zero → a = (rng h).zero ∨ b = (rng h).zero := by
  simp only [gcert, Bool.and_eq_true, beq_iff_eq, List.all_eq_true, bne_iff_ne, Nat.blt_eq] at hc
  obtain ⟨⟨⟨⟨c1, c2⟩, c3⟩, c4⟩, c5⟩ := hc
  have h1 := h.one_lt
  have hpw : ∀ n, n ≤ p ^ k - 1 → pwF p k m 17 1 g n = ((rng h).pow ⟨g, c3⟩ n).1 := fun n hn => by
    rw [pwF_pow h 17 1 g n h1 c3 (by rw [show (2 : Nat) ^ 17 = 131072 from rfl]; omega)]
    exact congrArg Subtype.val ((rng h).one_mul _)
  refine (rng h).nzd_of_gen (L := nzl (p ^ k)) (g := ⟨g, c3⟩) (nzl_nodup _) (fun a => ?_) (by rw [nzl_len]; omega) ?_ ?_
  · rw [nzl_mem]
    exact ⟨fun h e => h (congrArg Subtype.val e), fun h e => h (Subtype.ext e)⟩
  · rw [nzl_len]
    exact Subtype.ext (by rw [← hpw _ (Nat.le_refl _)]; exact c4)
  · intro f hf hd he
    rw [nzl_len] at hd he
    have hm := fold_dvd hf fs _ (List.all_eq_true.2 c2) c1 hd
    exact c5 f hm (by rw [hpw _ (Nat.div_le_self _ _), he]; rfl)
/-! The extension fields: least moduli, elements with all powers. -/
/-- No polynomial of degree d, from number x on, n of them, divides c. -/
def free (p d kk c : Nat) : Nat → Nat → Bool
  | 0, _ => true
  | n + 1, x => (pmul p d x 1 kk c != 0) && free p d kk c n (x + 1)
/-- The same for the degrees from d on, n of them. -/
def irrF (p kk c : Nat) : Nat → Nat → Bool
  | 0, _ => true
  | n + 1, d => free p d kk c (p ^ d) (p ^ d) && irrF p kk c n (d + 1)
def irr (p k c : Nat) : Bool := irrF p (k + 1) c (k / 2) 1
/-- None of n numbers from c on is irreducible. -/
def nirr (p k : Nat) : Nat → Nat → Bool
  | 0, _ => true
  | n + 1, c => !irr p k c && nirr p k n (c + 1)
def cert (e : Nat × Nat × Nat × Nat × List Nat) : Bool :=
  match e with
  | (p, k, m, g, fs) => Nat.ble (p ^ k) m && Nat.blt m (2 * p ^ k) && nirr p k (m - p ^ k) (p ^ k) && irr p k m && gcert p k m g fs
def tab0 : List (Nat × Nat × Nat × Nat × List Nat) := [(2, 2, 7, 2, [3]), (2, 3, 11, 2, [7]), (2, 4, 19, 2, [3, 5]), (2, 5, 37, 2, [31]), (2, 6, 67, 2, [3, 7]), (2, 7, 131, 2, [127]), (2, 8, 283, 3, [3, 5, 17]), (2, 9, 515, 7, [7, 73]), (2, 10, 1033, 2, [3, 11, 31]), (2, 11, 2053, 2, [23, 89]), (2, 12, 4105, 3, [3, 5, 7, 13]), (2, 13, 8219, 2, [8191])]
def tab1 : List (Nat × Nat × Nat × Nat × List Nat) := [(2, 14, 16417, 7, [3, 43, 127])]
def tab2 : List (Nat × Nat × Nat × Nat × List Nat) := [(2, 15, 32771, 2, [7, 31, 151])]
def tab3 : List (Nat × Nat × Nat × Nat × List Nat) := [(2, 16, 65579, 3, [3, 5, 17, 257])]
def tab4 : List (Nat × Nat × Nat × Nat × List Nat) := [(3, 2, 10, 4, [2]), (3, 3, 34, 3, [2, 13]), (3, 4, 86, 3, [2, 5]), (3, 5, 250, 3, [2, 11]), (3, 6, 734, 3, [2, 7, 13]), (3, 7, 2198, 5, [2, 1093]), (3, 8, 6572, 38, [2, 5, 41]), (3, 9, 19747, 3, [2, 13, 757]), (3, 10, 59068, 34, [2, 11, 61]), (5, 2, 27, 6, [2, 3]), (5, 3, 131, 9, [2, 31]), (5, 4, 627, 6, [2, 3, 13]), (5, 5, 3146, 10, [2, 11, 71]), (5, 6, 15632, 5, [2, 3, 7, 31])]
def tab5 : List (Nat × Nat × Nat × Nat × List Nat) := [(7, 2, 50, 9, [2, 3]), (7, 3, 345, 22, [2, 3, 19]), (7, 4, 2409, 12, [2, 3, 5]), (7, 5, 16817, 9, [2, 3, 2801]), (11, 2, 122, 15, [2, 3, 5]), (11, 3, 1346, 11, [2, 5, 7, 19]), (11, 4, 14654, 11, [2, 3, 5, 61]), (13, 2, 171, 15, [2, 3, 7]), (13, 3, 2199, 15, [2, 3, 61]), (13, 4, 28563, 17, [2, 3, 5, 7, 17]), (17, 2, 292, 19, [2, 3]), (17, 3, 4933, 17, [2, 307]), (19, 2, 362, 22, [2, 3, 5]), (19, 3, 6861, 29, [2, 3, 127]), (23, 2, 530, 25, [2, 3, 11]), (23, 3, 12193, 23, [2, 7, 11, 79]), (29, 2, 843, 30, [2, 3, 5, 7]), (29, 3, 24422, 30, [2, 7, 13, 67]), (31, 2, 962, 35, [2, 3, 5]), (31, 3, 29794, 34, [2, 3, 5, 331])]
def tab6 : List (Nat × Nat × Nat × Nat × List Nat) := [(37, 2, 1371, 41, [2, 3, 19]), (37, 3, 50655, 75, [2, 3, 7, 67]), (41, 2, 1684, 43, [2, 3, 5, 7]), (43, 2, 1850, 45, [2, 3, 7, 11]), (47, 2, 2210, 49, [2, 3, 23]), (53, 2, 2811, 54, [2, 3, 13]), (59, 2, 3482, 62, [2, 3, 5, 29]), (61, 2, 3723, 63, [2, 3, 5, 31]), (67, 2, 4490, 74, [2, 3, 11, 17]), (71, 2, 5042, 79, [2, 3, 5, 7]), (73, 2, 5334, 76, [2, 3, 37]), (79, 2, 6242, 85, [2, 3, 5, 13]), (83, 2, 6890, 93, [2, 3, 7, 41]), (89, 2, 7924, 91, [2, 3, 5, 11]), (97, 2, 9414, 101, [2, 3, 7]), (101, 2, 10203, 102, [2, 3, 5, 17]), (103, 2, 10610, 105, [2, 3, 13, 17]), (107, 2, 11450, 109, [2, 3, 53]), (109, 2, 11883, 111, [2, 3, 5, 11]), (113, 2, 12772, 117, [2, 3, 7, 19]), (127, 2, 16130, 135, [2, 3, 7]), (131, 2, 17162, 134, [2, 3, 5, 11, 13]), (137, 2, 18772, 145, [2, 3, 17, 23]), (139, 2, 19322, 143, [2, 3, 5, 7, 23]), (149, 2, 22203, 152, [2, 3, 5, 37]), (151, 2, 22802, 160, [2, 3, 5, 19]), (157, 2, 24651, 159, [2, 3, 13, 79]), (163, 2, 26570, 170, [2, 3, 41]), (167, 2, 27890, 169, [2, 3, 7, 83]), (173, 2, 29931, 174, [2, 3, 29, 43]), (179, 2, 32042, 182, [2, 3, 5, 89]), (181, 2, 32763, 185, [2, 3, 5, 7, 13]), (191, 2, 36482, 201, [2, 3, 5, 19]), (193, 2, 37254, 198, [2, 3, 97]), (197, 2, 38811, 200, [2, 3, 7, 11]), (199, 2, 39602, 212, [2, 3, 5, 11]), (211, 2, 44522, 215, [2, 3, 5, 7, 53]), (223, 2, 49730, 225, [2, 3, 7, 37]), (227, 2, 51530, 229, [2, 3, 19, 113]), (229, 2, 52443, 231, [2, 3, 5, 19, 23]), (233, 2, 54292, 241, [2, 3, 13, 29]), (239, 2, 57122, 247, [2, 3, 5, 7, 17]), (241, 2, 58088, 248, [2, 3, 5, 11]), (251, 2, 63002, 256, [2, 3, 5, 7])]
end FFld
end Go.Proofs.Ytfhhnfpapgfnmaa
