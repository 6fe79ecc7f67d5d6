/-
  Texts of the proof, merged by program: Lin Toe Eva Thp Lgp Rsm Rth.
-/
import Derived.Test.YtfhhnfpapgfnmaaZSvb
import Derived.Test.YtfhhnfpapgfnmaaZRtp
import Derived.Test.YtfhhnfpapgfnmaaZHor
import Derived.Test.YtfhhnfpapgfnmaaZRcm
import Derived.Test.YtfhhnfpapgfnmaaZRtd
import Derived.Test.YtfhhnfpapgfnmaaZTrm
import Derived.Test.YtfhhnfpapgfnmaaZChk
import Derived.Test.YtfhhnfpapgfnmaaZLca
import Derived.Test.YtfhhnfpapgfnmaaZ9
import Derived.Test.YtfhhnfpapgfnmaaZScl
import Derived.Test.YtfhhnfpapgfnmaaZRtq
import Derived.Test.YtfhhnfpapgfnmaaZRtn
set_option linter.unusedVariables false
set_option linter.unusedSimpArgs false
namespace Go.Proofs.Ytfhhnfpapgfnmaa
namespace FFld
namespace Dom
variable {α : Type} (F : Dom α)
/-- The sum of f 0, .., f (n - 1). -/
def sm (F : Dom α) (f : Nat → α) : Nat → α
  | 0 => F.zero
  | n + 1 => F.add (sm F f n) (f n)
theorem sm_congr {f g : Nat → α} : ∀ (n : Nat), (∀ i, i < n → f i = g i) → F.sm f n = F.sm g n
  | 0, _ => rfl
  | n + 1, h => by
    simp only [sm]
    rw [sm_congr n fun i hi => h i (by omega), h n (Nat.lt_succ_self n)]
theorem sm_add (f g : Nat → α) : ∀ (n : Nat), F.sm (fun i => F.add (f i) (g i)) n = F.add (F.sm f n) (F.sm g n)
  | 0 => (F.add_zero _).symm
  | n + 1 => by
    simp only [sm]
    rw [sm_add f g n, F.add4]
theorem sm_mul (a : α) (f : Nat → α) : ∀ (n : Nat), F.sm (fun i => F.mul a (f i)) n = F.mul a (F.sm f n)
  | 0 => (F.mul_zero a).symm
  | n + 1 => by
    simp only [sm]
    rw [sm_mul a f n, F.mul_add]
theorem sm_zero {f : Nat → α} : ∀ (n : Nat), (∀ i, i < n → f i = F.zero) → F.sm f n = F.zero
  | 0, _ => rfl
  | n + 1, h => by
    simp only [sm]
    rw [sm_zero n fun i hi => h i (by omega), h n (Nat.lt_succ_self n), F.add_zero]
theorem sm_comm (f : Nat → Nat → α) (m : Nat) : ∀ (n : Nat), F.sm (fun i => F.sm (fun j => f i j) m) n = F.sm (fun j => F.sm (fun i => f i j) n) m
  | 0 => by
    simp only [sm]
    exact (F.sm_zero m fun _ _ => rfl).symm
  | n + 1 => by
    simp only [sm]
    rw [sm_comm f m n, F.sm_add]
theorem sm_one {f : Nat → α} {j : Nat} : ∀ (n : Nat), j < n → (∀ i, i < n → i ≠ j → f i = F.zero) → F.sm f n = f j
  | 0, h, _ => by omega
  | n + 1, h, hz => by
    simp only [sm]
    by_cases e : j = n
    · subst e
      rw [F.sm_zero _ fun i hi => hz i (by omega) (by omega), F.zero_add]
    · rw [sm_one n (by omega) fun i hi => hz i (by omega), hz n (Nat.lt_succ_self n) (fun e2 => e e2.symm), F.add_zero]
/-- The numbers but one. -/
def skp (j i : Nat) : Nat := if i < j then i else i + 1
theorem sm_skip {f : Nat → α} {j : Nat} : ∀ (n : Nat), j < n + 1 → F.sm f (n + 1) = F.add (F.sm (fun i => f (skp j i)) n) (f j)
  | 0, h => by
    obtain rfl : j = 0 := by omega
    rfl
  | n + 1, h => by
    by_cases e : j = n + 1
    · subst e
      show F.add (F.sm f (n + 1)) (f (n + 1)) = _
      rw [F.sm_congr (n + 1) (g := fun i => f (skp (n + 1) i)) fun i hi => by unfold skp; rw [if_pos hi]]
    · have ih := sm_skip (f := f) (j := j) n (by omega)
      show F.add (F.sm f (n + 1)) (f (n + 1)) = F.add (F.add (F.sm (fun i => f (skp j i)) n) (f (skp j n))) (f j)
      have e2 : skp j n = n + 1 := by unfold skp; rw [if_neg (by omega)]
      rw [ih, e2, F.add_assoc, F.add_assoc, F.add_comm (f j)]
/-- More unknowns than equations: a solution that is not 0. -/
theorem depend : ∀ (r n : Nat) (c : Nat → Nat → α), r < n → ∃ x : Nat → α, (∃ i, i < n ∧ x i ≠ F.zero) ∧ ∀ k, k < r → F.sm (fun i => F.mul (x i) (c i k)) n = F.zero
  | 0, n, c, h => ⟨fun _ => F.one, ⟨0, h, F.one_ne⟩, fun k hk => by omega⟩
  | r + 1, n, c, h => by
    by_cases hz : ∀ i, i < n → c i r = F.zero
    · obtain ⟨x, hx, hs⟩ := depend r n c (by omega)
      refine ⟨x, hx, fun k hk => ?_⟩
      by_cases e : k = r
      · subst e
        exact F.sm_zero n fun i hi => by rw [hz i hi, F.mul_zero]
      · exact hs k (by omega)
    · have hex : ∃ j, j < n ∧ c j r ≠ F.zero := by
        apply Classical.byContradiction
        intro hc
        exact hz fun i hi => Classical.byContradiction fun h3 => hc ⟨i, hi, h3⟩
      obtain ⟨j, hj, ha⟩ := hex
      obtain ⟨m, rfl⟩ : ∃ m, n = m + 1 := ⟨n - 1, by omega⟩
      obtain ⟨x, ⟨i1, hi1, hx1⟩, hs⟩ := depend r m (fun i k => F.add (F.mul (c (skp j i) k) (c j r)) (F.neg (F.mul (c (skp j i) r) (c j k)))) (by omega)
      have hsk : ∀ i, skp j i ≠ j ∧ (if skp j i < j then skp j i else skp j i - 1) = i := fun i => by
        unfold skp
        split
        · rename_i h1
          exact ⟨by omega, by first | rfl | rw [if_pos h1]⟩
        · exact ⟨by omega, by first | omega | (rw [if_neg (by omega)]; omega)⟩
      refine ⟨fun i => if i = j then F.neg (F.sm (fun i => F.mul (x i) (c (skp j i) r)) m) else F.mul (x (if i < j then i else i - 1)) (c j r), ⟨skp j i1, ?_, ?_⟩, fun k hk => ?_⟩
      · unfold skp
        split <;> omega
      · simp only
        rw [if_neg (hsk i1).1, (hsk i1).2]
        exact F.mul_ne hx1 ha
      · rw [F.sm_skip m hj]
        simp only
        rw [if_pos trivial, F.sm_congr m (g := fun i => F.mul (F.mul (x i) (c j r)) (c (skp j i) k)) fun i _ => by rw [if_neg (hsk i).1, (hsk i).2]]
        have key : ∀ i, F.mul (x i) (F.add (F.mul (c (skp j i) k) (c j r)) (F.neg (F.mul (c (skp j i) r) (c j k)))) = F.add (F.mul (F.mul (x i) (c j r)) (c (skp j i) k)) (F.mul (F.neg (c j k)) (F.mul (x i) (c (skp j i) r))) := fun i => by
          rw [F.mul_add]
          congr 1
          · rw [F.mul_comm (c (skp j i) k), F.mul_assoc]
          · rw [F.mul_neg, F.neg_mul, F.mul_comm (c j k), F.mul_assoc]
        have tot : F.sm (fun i => F.mul (x i) (F.add (F.mul (c (skp j i) k) (c j r)) (F.neg (F.mul (c (skp j i) r) (c j k))))) m = F.zero := by
          by_cases e : k = r
          · subst e
            exact F.sm_zero m fun i hi => by rw [F.add_neg, F.mul_zero]
          · exact hs k (by omega)
        rw [F.sm_congr m fun i _ => key i, F.sm_add, F.sm_mul] at tot
        rw [F.neg_mul, F.mul_comm (F.sm _ m) (c j k), ← F.neg_mul]
        exact tot
/-- Rows with units in different columns, made of r rows, are at most r. -/
theorem indep_le {r n : Nat} (v b q : Nat → Nat → α) (p : Nat → Nat) (h : ∀ i j, i < n → j < n → v i (p j) = F.sm (fun k => F.mul (b i k) (q k (p j))) r)
    (h1 : ∀ i, i < n → v i (p i) = F.one) (h0 : ∀ i j, i < n → j < n → i ≠ j → v i (p j) = F.zero) : n ≤ r := by
  apply Classical.byContradiction
  intro hc
  obtain ⟨x, ⟨j, hj, hx⟩, hs⟩ := F.depend r n b (by omega)
  apply hx
  have e1 : F.sm (fun i => F.mul (x i) (v i (p j))) n = x j := by
    rw [F.sm_one (j := j) n hj fun i hi hne => by rw [h0 i j hi hj hne, F.mul_zero], h1 j hj, F.mul_one]
  have e2 : F.sm (fun i => F.mul (x i) (v i (p j))) n = F.sm (fun i => F.sm (fun k => F.mul (q k (p j)) (F.mul (x i) (b i k))) r) n := F.sm_congr n fun i hi => by
    rw [h i j hi hj, ← F.sm_mul]
    exact F.sm_congr r fun k _ => by rw [← F.mul_assoc, F.mul_comm (F.mul (x i) (b i k))]
  rw [← e1, e2, F.sm_comm]
  exact F.sm_zero r fun k hk => by rw [F.sm_mul, hs k hk, F.mul_zero]
/-- The rows that sums of multiples of the rows in P are. -/
inductive Spn (F : Dom α) (W : Nat) (P : (Nat → α) → Prop) : (Nat → α) → Prop where
  | mem (v : Nat → α) : P v → Spn F W P v
  | zero (v : Nat → α) : (∀ c, c < W → v c = F.zero) → Spn F W P v
  | add (u v w : Nat → α) : Spn F W P u → Spn F W P v → (∀ c, c < W → w c = F.add (u c) (v c)) → Spn F W P w
  | mul (a : α) (u w : Nat → α) : Spn F W P u → (∀ c, c < W → w c = F.mul a (u c)) → Spn F W P w
theorem Spn.trans {F : Dom α} {W : Nat} {P P' : (Nat → α) → Prop} (h : ∀ v, P v → Spn F W P' v) {v : Nat → α} (hv : Spn F W P v) : Spn F W P' v := by
  induction hv with
  | mem v hp => exact h v hp
  | zero v hz => exact .zero v hz
  | add u v w _ _ e iu iv => exact .add u v w iu iv e
  | mul a u w _ e iu => exact .mul a u w iu e
theorem Spn.coef {F : Dom α} {W r : Nat} {P : (Nat → α) → Prop} {q : Nat → Nat → α} (h : ∀ v, P v → ∃ a : Nat → α, ∀ c, c < W → v c = F.sm (fun k => F.mul (a k) (q k c)) r) {v : Nat → α} (hv : Spn F W P v) :
    ∃ a : Nat → α, ∀ c, c < W → v c = F.sm (fun k => F.mul (a k) (q k c)) r := by
  induction hv with
  | mem v hp => exact h v hp
  | zero v hz => exact ⟨fun _ => F.zero, fun c hc => by rw [hz c hc, F.sm_zero r fun k _ => F.zero_mul _]⟩
  | add u v w _ _ e iu iv =>
    obtain ⟨a, ha⟩ := iu
    obtain ⟨b, hb⟩ := iv
    refine ⟨fun k => F.add (a k) (b k), fun c hc => ?_⟩
    rw [e c hc, ha c hc, hb c hc, ← F.sm_add]
    exact F.sm_congr r fun k _ => (F.add_mul _ _ _).symm
  | mul s u w _ e iu =>
    obtain ⟨a, ha⟩ := iu
    refine ⟨fun k => F.mul s (a k), fun c hc => ?_⟩
    rw [e c hc, ha c hc, ← F.sm_mul]
    exact F.sm_congr r fun k _ => (F.mul_assoc _ _ _).symm
end Dom
end FFld
end Go.Proofs.Ytfhhnfpapgfnmaa

set_option linter.unusedVariables false
set_option linter.unusedSimpArgs false
namespace Go.Proofs.Ytfhhnfpapgfnmaa
namespace FFld
/-- A number as an element. -/
def toE {D : FD} (h : PK D.p D.k D.m) (a : Nat) : El (D.p ^ D.k) := if ha : a < D.p ^ D.k then ⟨a, ha⟩ else ⟨0, Nat.pow_pos h.p0⟩
theorem toE_val {D : FD} (h : PK D.p D.k D.m) {a : Nat} (ha : a < D.p ^ D.k) : (toE h a).1 = a := by
  unfold toE
  rw [dif_pos ha]
section
variable {D : FD} (hD : D.Ok)
theorem toE_add {a b : Nat} (ha : a < D.p ^ D.k) (hb : b < D.p ^ D.k) : toE hD.pre.pk (padd D.p D.k a b) = (FD.dom hD.nzd).add (toE hD.pre.pk a) (toE hD.pre.pk b) := by
  apply Subtype.ext
  rw [toE_val _ (padd_lt hD.pre.pk _ _)]
  show _ = padd D.p D.k (toE hD.pre.pk a).1 (toE hD.pre.pk b).1
  rw [toE_val _ ha, toE_val _ hb]
theorem toE_mul {a b : Nat} (ha : a < D.p ^ D.k) (hb : b < D.p ^ D.k) : toE hD.pre.pk (pmul D.p D.k D.m a D.k b) = (FD.dom hD.nzd).mul (toE hD.pre.pk a) (toE hD.pre.pk b) := by
  apply Subtype.ext
  rw [toE_val _ (pmul_lt hD.pre.pk _ _ _)]
  show _ = pmul D.p D.k D.m (toE hD.pre.pk a).1 D.k (toE hD.pre.pk b).1
  rw [toE_val _ ha, toE_val _ hb]
theorem toE_neg {a : Nat} (ha : a < D.p ^ D.k) : toE hD.pre.pk (pscl D.p D.k (D.p - 1) a) = (FD.dom hD.nzd).neg (toE hD.pre.pk a) := by
  apply Subtype.ext
  rw [toE_val _ (pscl_lt hD.pre.pk _ _)]
  show _ = pscl D.p D.k (D.p - 1) (toE hD.pre.pk a).1
  rw [toE_val _ ha]
theorem toE_zero : toE hD.pre.pk 0 = (FD.dom hD.nzd).zero := by
  apply Subtype.ext
  rw [toE_val _ (Nat.pow_pos hD.pre.pk.p0)]
  rfl
theorem toE_one : toE hD.pre.pk 1 = (FD.dom hD.nzd).one := by
  apply Subtype.ext
  rw [toE_val _ hD.pre.pk.one_lt]
  rfl
end
end FFld
end Go.Proofs.Ytfhhnfpapgfnmaa

set_option linter.unusedVariables false
set_option linter.unusedSimpArgs false
namespace Go.Proofs.Ytfhhnfpapgfnmaa
namespace FFld
namespace Dom
variable {α : Type} (F : Dom α)
theorem eval_snoc (c x : α) : ∀ (l : List α), F.eval (l ++ [c]) x = F.add (F.eval l x) (F.mul c (F.pow x l.length))
  | [] => by
    simp only [List.nil_append, eval, List.length_nil, pow_zero, F.mul_zero, F.add_zero, F.zero_add, F.mul_one]
  | a :: l => by
    simp only [List.cons_append, eval, List.length_cons]
    rw [eval_snoc c x l, F.mul_add, ← F.add_assoc, pow_succ, ← F.mul_assoc c, F.mul_comm x (F.mul c _)]
theorem eval_range (f : Nat → α) (x : α) : ∀ (n : Nat), F.eval ((List.range n).map f) x = F.sm (fun i => F.mul (f i) (F.pow x i)) n
  | 0 => rfl
  | n + 1 => by
    rw [List.range_succ, List.map_append, List.map_cons, List.map_nil, eval_snoc, eval_range f x n, List.length_map, List.length_range]
    rfl
/-- A list with as many roots as it is long is 0. -/
theorem syn_zero (r : α) : ∀ (l : List α), F.eval l r = F.zero → (∀ c ∈ F.syn l r, c = F.zero) → ∀ c ∈ l, c = F.zero
  | [], _, _, c, hc => absurd hc List.not_mem_nil
  | [a], h, _, c, hc => by
    rw [List.mem_singleton.1 hc]
    simp only [eval, F.mul_zero, F.add_zero] at h
    exact h
  | a :: b :: t, h, hs, c, hc => by
    have h1 : F.eval (b :: t) r = F.zero := hs _ (by simp only [syn]; exact List.mem_cons_self)
    have h2 := syn_zero r (b :: t) h1 fun d hd => hs d (by simp only [syn]; exact List.mem_cons_of_mem _ hd)
    rcases List.mem_cons.1 hc with rfl | hc
    · have e : F.eval (c :: b :: t) r = F.add c (F.mul r (F.eval (b :: t) r)) := rfl
      rw [e, h1, F.mul_zero, F.add_zero] at h
      exact h
    · exact h2 c hc
theorem roots_zero (R : List α) (hR : R.Nodup) : ∀ (l : List α), l.length ≤ R.length → (∀ r ∈ R, F.eval l r = F.zero) → ∀ c ∈ l, c = F.zero := by
  induction R with
  | nil => intro l h _ c hc; rw [List.eq_nil_of_length_eq_zero (Nat.le_zero.1 h)] at hc; exact absurd hc List.not_mem_nil
  | cons r R ih =>
    intro l h hr
    obtain ⟨hn, hR'⟩ := List.nodup_cons.1 hR
    have h0 := hr r List.mem_cons_self
    refine F.syn_zero r l h0 (ih hR' _ (by rw [syn_len]; simp only [List.length_cons] at h; omega) fun q hq => ?_)
    have hq0 := hr q (List.mem_cons_of_mem _ hq)
    have e := F.eval_syn l r q
    rw [h0, hq0, F.zero_add, F.zero_add] at e
    have e2 : F.mul (F.add q (F.neg r)) (F.eval (F.syn l r) q) = F.zero := by
      rw [F.add_mul, ← e, F.mul_comm (F.neg r), F.mul_neg, F.mul_comm _ r, F.add_neg]
    rcases F.nzd _ _ e2 with e3 | e3
    · exact absurd (F.eq_of_sub e3 ▸ hq) hn
    · exact e3
end Dom
section
variable {D : FD} (hD : D.Ok)
/-- The value of a polynomial. -/
def evE (l : List Nat) (x : El (D.p ^ D.k)) : El (D.p ^ D.k) := (FD.dom hD.nzd).eval (l.map (toE hD.pre.pk)) x
/-- The coefficient i. -/
def cfE (l : List Nat) (i : Nat) : El (D.p ^ D.k) := toE hD.pre.pk (l[i]?.getD 0)
theorem map_cf (l : List Nat) : l.map (toE hD.pre.pk) = (List.range l.length).map (cfE hD l) := by
  apply List.ext_getElem?
  intro i
  rw [List.getElem?_map, List.getElem?_map]
  by_cases h : i < l.length
  · rw [List.getElem?_range h, List.getElem?_eq_getElem h]
    unfold cfE
    simp [List.getElem?_eq_getElem h]
  · rw [List.getElem?_eq_none (by omega), List.getElem?_eq_none (by simp; omega)]
    rfl
theorem evE_len (l : List Nat) (x : El (D.p ^ D.k)) : evE hD l x = (FD.dom hD.nzd).sm (fun i => (FD.dom hD.nzd).mul (cfE hD l i) ((FD.dom hD.nzd).pow x i)) l.length := by
  unfold evE
  rw [map_cf, Dom.eval_range]
theorem sm_more {α : Type} (F : Dom α) (f : Nat → α) (n : Nat) (hz : ∀ i, n ≤ i → f i = F.zero) : ∀ d, F.sm f (n + d) = F.sm f n
  | 0 => rfl
  | d + 1 => by
    show F.add (F.sm f (n + d)) (f (n + d)) = _
    rw [sm_more F f n hz d, hz _ (by omega), F.add_zero]
theorem cfE_big {l : List Nat} {i : Nat} (h : l.length ≤ i) : cfE hD l i = (FD.dom hD.nzd).zero := by
  unfold cfE
  rw [List.getElem?_eq_none h]
  exact toE_zero hD
theorem evE_sum (l : List Nat) (x : El (D.p ^ D.k)) {n : Nat} (hn : l.length ≤ n) : evE hD l x = (FD.dom hD.nzd).sm (fun i => (FD.dom hD.nzd).mul (cfE hD l i) ((FD.dom hD.nzd).pow x i)) n := by
  obtain ⟨d, rfl⟩ : ∃ d, n = l.length + d := ⟨n - l.length, by omega⟩
  rw [evE_len, sm_more _ _ _ fun i hi => by rw [cfE_big hD hi, Dom.zero_mul]]
theorem evE_congr {l m : List Nat} (h : ∀ i : Nat, l[i]?.getD 0 = m[i]?.getD 0) (x : El (D.p ^ D.k)) : evE hD l x = evE hD m x := by
  rw [evE_sum hD l x (n := max l.length m.length) (by omega), evE_sum hD m x (n := max l.length m.length) (by omega)]
  exact Dom.sm_congr _ _ fun i _ => by unfold cfE; rw [h i]
/-- Polynomials without zeros at their end that have the same coefficients are the same. -/
theorem tz_ext {l m : List Nat} (hl : Tz l) (hm : Tz m) (h : ∀ i : Nat, l[i]?.getD 0 = m[i]?.getD 0) : l = m := by
  have key : ∀ {a b : List Nat}, Tz a → (∀ i : Nat, a[i]?.getD 0 = b[i]?.getD 0) → a.length ≤ b.length := fun {a b} ha hab => by
    rcases ha with h0 | h0
    · omega
    · apply Classical.byContradiction
      intro hc
      apply h0
      rw [hab, List.getElem?_eq_none (by omega)]
      rfl
  have e : l.length = m.length := Nat.le_antisymm (key hl h) (key hm fun i => (h i).symm)
  exact ext_getD e fun i _ => h i
/-- A polynomial is known by its values at as many places as it may have coefficients. -/
theorem interp {l m : List Nat} {n : Nat} (hlq : ∀ a ∈ l, a < D.p ^ D.k) (hmq : ∀ a ∈ m, a < D.p ^ D.k) (hl : Tz l) (hm : Tz m) (ln : l.length ≤ n) (mn : m.length ≤ n) (R : List (El (D.p ^ D.k))) (hR : R.Nodup) (hn : R.length = n) (h : ∀ r ∈ R, evE hD l r = evE hD m r) : l = m := by
  have hz := Dom.roots_zero (FD.dom hD.nzd) R hR ((List.range n).map fun i => (FD.dom hD.nzd).add (cfE hD l i) ((FD.dom hD.nzd).neg (cfE hD m i))) (by simp [hn]) fun r hr => by
    rw [Dom.eval_range]
    have e1 : (FD.dom hD.nzd).sm (fun i => (FD.dom hD.nzd).mul ((FD.dom hD.nzd).add (cfE hD l i) ((FD.dom hD.nzd).neg (cfE hD m i))) ((FD.dom hD.nzd).pow r i)) n = (FD.dom hD.nzd).add (evE hD l r) (evE hD m r |> fun v => (FD.dom hD.nzd).mul ((FD.dom hD.nzd).neg (FD.dom hD.nzd).one) v) := by
      rw [evE_sum hD l r ln, evE_sum hD m r mn]
      dsimp only
      rw [← Dom.sm_mul, ← Dom.sm_add]
      exact Dom.sm_congr _ _ fun i _ => by rw [Dom.add_mul, Dom.neg_mul, Dom.neg_mul, Dom.one_mul]
    rw [e1, h r hr]
    dsimp only
    rw [Dom.neg_mul, Dom.one_mul, Dom.add_neg]
  refine tz_ext hl hm fun i => ?_
  by_cases hi : i < n
  · have h1 := hz _ (List.mem_map.2 ⟨i, List.mem_range.2 hi, rfl⟩)
    have h2 := Dom.eq_of_sub _ h1
    unfold cfE at h2
    have hk := hD.pre.pk
    have h3 := congrArg Subtype.val h2
    rw [toE_val hk (getD_lt (Nat.pow_pos hk.p0) hlq i), toE_val hk (getD_lt (Nat.pow_pos hk.p0) hmq i)] at h3
    exact h3
  · rw [List.getElem?_eq_none (by omega), List.getElem?_eq_none (by omega)]
theorem evE_horn (pl : List Nat) (hp : ∀ a ∈ pl, a < D.p ^ D.k) {x : Nat} (hx : x < D.p ^ D.k) : ∀ i, i ≤ pl.length → toE hD.pre.pk (hornF D pl x i) = evE hD (pl.drop (pl.length - i)) (toE hD.pre.pk x)
  | 0, _ => by
    rw [Nat.sub_zero, List.drop_length]
    exact toE_zero hD
  | i + 1, hi => by
    have hk := hD.pre.pk
    have e : pl.drop (pl.length - (i + 1)) = pl[pl.length - 1 - i]?.getD 0 :: pl.drop (pl.length - i) := by
      rw [show pl.length - (i + 1) = pl.length - 1 - i by omega, List.drop_eq_getElem_cons (by omega), List.getElem?_eq_getElem (by omega), show pl.length - 1 - i + 1 = pl.length - i by omega]
      rfl
    rw [e]
    simp only [hornF]
    rw [toE_add hD (pmul_lt hk _ _ _) (getD_lt (Nat.pow_pos hk.p0) hp _), toE_mul hD (hornF_lt hk _ _ _) hx, evE_horn pl hp hx i (by omega)]
    show _ = (FD.dom hD.nzd).add (toE hk (pl[pl.length - 1 - i]?.getD 0)) ((FD.dom hD.nzd).mul (toE hk x) (evE hD (pl.drop (pl.length - i)) (toE hk x)))
    rw [Dom.add_comm, Dom.mul_comm]
theorem horn_ev {pl : List Nat} (hp : ∀ a ∈ pl, a < D.p ^ D.k) {x : Nat} (hx : x < D.p ^ D.k) : toE hD.pre.pk (hornF D pl x pl.length) = evE hD pl (toE hD.pre.pk x) := by
  rw [evE_horn hD pl hp hx _ (Nat.le_refl _), Nat.sub_self, List.drop_zero]
theorem evE_trm (l : List Nat) (x : El (D.p ^ D.k)) : evE hD (trm l) x = evE hD l x := by
  refine evE_congr hD (fun i => ?_) x
  unfold trm
  by_cases h : i < trmN l l.length
  · exact take_getD h
  · by_cases h2 : i < l.length
    · rw [List.getElem?_eq_none (by rw [List.length_take]; omega), trmN_zero l l.length i (by omega) h2]
      rfl
    · rw [List.getElem?_eq_none (by rw [List.length_take]; omega), List.getElem?_eq_none (by omega)]
theorem evE_row (l : List Nat) (hl : ∀ a ∈ l, a < D.p ^ D.k) {c : Nat} (hc : c < D.p ^ D.k) (x : El (D.p ^ D.k)) : evE hD (rowMul D l c) x = (FD.dom hD.nzd).mul (toE hD.pre.pk c) (evE hD l x) := by
  have hk := hD.pre.pk
  rw [evE_sum hD (rowMul D l c) x (n := l.length) (by rw [rowMul_len]; exact Nat.le_refl _), evE_len, ← Dom.sm_mul]
  exact Dom.sm_congr _ _ fun i hi => by
    unfold cfE
    rw [rowMul_get _ _ _ _ hi, toE_mul hD (getD_lt (Nat.pow_pos hk.p0) hl i) hc, Dom.mul_comm _ _ (toE hk c), Dom.mul_assoc]
theorem evE_set (l : List Nat) (hl : ∀ a ∈ l, a < D.p ^ D.k) {j d : Nat} (hj : j < l.length) (hd : d < D.p ^ D.k) (x : El (D.p ^ D.k)) : evE hD (l.set j (padd D.p D.k (l[j]?.getD 0) d)) x = (FD.dom hD.nzd).add (evE hD l x) ((FD.dom hD.nzd).mul (toE hD.pre.pk d) ((FD.dom hD.nzd).pow x j)) := by
  have hk := hD.pre.pk
  rw [evE_sum hD (l.set j _) x (n := l.length) (by rw [List.length_set]; exact Nat.le_refl _), evE_len]
  have e : (FD.dom hD.nzd).mul (toE hk d) ((FD.dom hD.nzd).pow x j) = (FD.dom hD.nzd).sm (fun i => if i = j then (FD.dom hD.nzd).mul (toE hk d) ((FD.dom hD.nzd).pow x i) else (FD.dom hD.nzd).zero) l.length := by
    rw [Dom.sm_one _ (j := j) _ hj fun i _ hne => if_neg hne, if_pos rfl]
  rw [e, ← Dom.sm_add]
  exact Dom.sm_congr _ _ fun i hi => by
    unfold cfE
    rw [set_get]
    by_cases h : i = j
    · subst h
      rw [if_pos ⟨rfl, hj⟩, if_pos rfl, toE_add hD (getD_lt (Nat.pow_pos hk.p0) hl i) hd, Dom.add_mul]
    · rw [if_neg (fun q => h q.1.symm), if_neg h, Dom.add_zero]
theorem evE_take (l : List Nat) {j : Nat} (hj : j < l.length) (x : El (D.p ^ D.k)) : evE hD (l.take (j + 1)) x = (FD.dom hD.nzd).add (evE hD (l.take j) x) ((FD.dom hD.nzd).mul (cfE hD l j) ((FD.dom hD.nzd).pow x j)) := by
  have e : l.take (j + 1) = l.take j ++ [l[j]?.getD 0] := by
    rw [List.take_add_one, List.getElem?_eq_getElem hj]
    rfl
  unfold evE
  rw [e, List.map_append, List.map_cons, List.map_nil, Dom.eval_snoc, List.length_map, List.length_take, Nat.min_eq_left (by omega)]
  rfl
theorem evE_addm (xs : List Nat) (s : Nat) (q : List Nat) {c : Nat} (hx : ∀ a ∈ xs, a < D.p ^ D.k) (hq : ∀ a ∈ q, a < D.p ^ D.k) (hc : c < D.p ^ D.k) (hs : s + q.length ≤ xs.length) (x : El (D.p ^ D.k)) :
    evE hD (addm D xs s q c) x = (FD.dom hD.nzd).add (evE hD xs x) ((FD.dom hD.nzd).mul (toE hD.pre.pk c) ((FD.dom hD.nzd).mul ((FD.dom hD.nzd).pow x s) (evE hD q x))) := by
  have hk := hD.pre.pk
  have key : ∀ j, j ≤ q.length → evE hD (addmF D xs s q c j) x = (FD.dom hD.nzd).add (evE hD xs x) ((FD.dom hD.nzd).mul (toE hk c) ((FD.dom hD.nzd).mul ((FD.dom hD.nzd).pow x s) (evE hD (q.take j) x))) := fun j => by
    induction j with
    | zero =>
      intro _
      have e0 : evE hD (q.take 0) x = (FD.dom hD.nzd).zero := rfl
      rw [e0, Dom.mul_zero, Dom.mul_zero, Dom.add_zero]
      rfl
    | succ j ih =>
      intro hj
      have hqj : q[j]?.getD 0 < D.p ^ D.k := getD_lt (Nat.pow_pos hk.p0) hq j
      simp only [addmF]
      rw [evE_set hD _ (addmF_lt hk s q c j hx) (by rw [addmF_len]; omega) (pmul_lt hk _ _ _), ih (by omega), evE_take hD q (by omega), toE_mul hD hqj hc, Dom.add_assoc]
      congr 1
      rw [Dom.mul_add, Dom.mul_add]
      congr 1
      unfold cfE
      rw [Dom.pow_add]
      generalize toE hk (q[j]?.getD 0) = a
      generalize toE hk c = b
      generalize (FD.dom hD.nzd).pow x s = u
      generalize (FD.dom hD.nzd).pow x j = v
      rw [Dom.mul_comm _ a b, Dom.mul_assoc, ← Dom.mul_assoc _ a u v, Dom.mul_comm _ a u, Dom.mul_assoc]
  have := key q.length (Nat.le_refl _)
  rw [List.take_of_length_le (Nat.le_refl _)] at this
  exact this
theorem evE_zeros (n : Nat) (x : El (D.p ^ D.k)) : evE hD (List.replicate n 0) x = (FD.dom hD.nzd).zero := by
  rw [evE_len]
  exact Dom.sm_zero _ _ fun i hi => by
    unfold cfE
    rw [List.length_replicate] at hi
    rw [List.getElem?_replicate_of_lt hi]
    show (FD.dom hD.nzd).mul (toE hD.pre.pk 0) _ = _
    rw [toE_zero hD, Dom.zero_mul]
theorem evE_mulL {pl ql : List Nat} (hp : ∀ a ∈ pl, a < D.p ^ D.k) (hq : ∀ a ∈ ql, a < D.p ^ D.k) (x : El (D.p ^ D.k)) : evE hD (mulL D pl ql) x = (FD.dom hD.nzd).mul (evE hD pl x) (evE hD ql x) := by
  have hk := hD.pre.pk
  unfold mulL
  split
  · rename_i h
    rcases h with h | h
    · rw [List.eq_nil_of_length_eq_zero h]
      exact (Dom.zero_mul _ _).symm
    · rw [List.eq_nil_of_length_eq_zero h]
      exact (Dom.mul_zero _ _).symm
  · rename_i h
    have key : ∀ i, i ≤ pl.length → evE hD (mulF D pl ql i) x = (FD.dom hD.nzd).mul (evE hD (pl.take i) x) (evE hD ql x) := fun i => by
      induction i with
      | zero =>
        intro _
        show evE hD (List.replicate _ 0) x = _
        rw [evE_zeros]
        exact (Dom.zero_mul _ _).symm
      | succ i ih =>
        intro hi
        have hpi : pl[i]?.getD 0 < D.p ^ D.k := getD_lt (Nat.pow_pos hk.p0) hp i
        show evE hD (addm D (mulF D pl ql i) i ql (pl[i]?.getD 0)) x = _
        rw [evE_addm hD _ _ _ (mulF_lt hk _ _ _) hq hpi (by rw [mulF_len]; omega), ih (by omega), evE_take hD pl (by omega), Dom.add_mul]
        congr 1
        unfold cfE
        rw [Dom.mul_assoc]
    have := key pl.length (Nat.le_refl _)
    rw [List.take_of_length_le (Nat.le_refl _)] at this
    exact this
/-- The value of x - a. -/
theorem evE_lin {a : Nat} (ha : a < D.p ^ D.k) (x : El (D.p ^ D.k)) : evE hD [pscl D.p D.k (D.p - 1) a, 1] x = (FD.dom hD.nzd).add x ((FD.dom hD.nzd).neg (toE hD.pre.pk a)) := by
  show (FD.dom hD.nzd).add (toE hD.pre.pk (pscl D.p D.k (D.p - 1) a)) ((FD.dom hD.nzd).mul x ((FD.dom hD.nzd).add (toE hD.pre.pk 1) ((FD.dom hD.nzd).mul x (FD.dom hD.nzd).zero))) = _
  rw [toE_neg hD ha, toE_one hD, Dom.mul_zero, Dom.add_zero, Dom.mul_one, Dom.add_comm]
end
end FFld
end Go.Proofs.Ytfhhnfpapgfnmaa

set_option linter.unusedVariables false
set_option linter.unusedSimpArgs false
set_option linter.unusedSectionVars false
namespace Go.Proofs.Ytfhhnfpapgfnmaa
namespace FFld
/-- Newton's way: the polynomial that is 0 at the first i places. -/
def thV (D : FD) (xs : List Nat) : Nat → List Nat
  | 0 => [1]
  | i + 1 => mulL D (thV D xs i) [pscl D.p D.k (D.p - 1) (xs[i]?.getD 0), 1]
/-- Its value at the place i. -/
def thA (D : FD) (xs : List Nat) (i : Nat) : Nat := hornF D (thV D xs i) (xs[i]?.getD 0) (thV D xs i).length
/-- What is missing at the place i. -/
def misF (D : FD) (R : List Nat) (x y : Nat) : Nat := padd D.p D.k y (pscl D.p D.k (D.p - 1) (hornF D R x R.length))
/-- The polynomial through the first i points, of n coefficients. -/
def thR (D : FD) (h : PK D.p D.k D.m) (xs ys : List Nat) (n : Nat) : Nat → List Nat
  | 0 => List.replicate n 0
  | i + 1 => addm D (thR D h xs ys n i) 0 (thV D xs i) (pmul D.p D.k D.m (misF D (thR D h xs ys n i) (xs[i]?.getD 0) (ys[i]?.getD 0)) D.k (ppow h (thA D xs i) (D.q - 2)))
theorem thV_len (D : FD) (xs : List Nat) : ∀ i, (thV D xs i).length = i + 1
  | 0 => rfl
  | i + 1 => by
    simp only [thV]
    unfold mulL
    rw [if_neg (by rw [thV_len D xs i]; simp), mulF_len, thV_len D xs i]
    simp
theorem thV_lt {D : FD} (h : PK D.p D.k D.m) (xs : List Nat) (i : Nat) : ∀ a ∈ thV D xs i, a < D.p ^ D.k := by
  cases i with
  | zero => intro a ha; rw [List.mem_singleton.1 ha]; exact h.one_lt
  | succ i => exact mulL_lt h _ _
theorem thR_len (D : FD) (h : PK D.p D.k D.m) (xs ys : List Nat) (n : Nat) : ∀ i, (thR D h xs ys n i).length = n
  | 0 => by simp [thR]
  | i + 1 => by
    simp only [thR]
    rw [addm_len, thR_len D h xs ys n i]
theorem thR_lt {D : FD} (h : PK D.p D.k D.m) (xs ys : List Nat) (n : Nat) : ∀ i, ∀ a ∈ thR D h xs ys n i, a < D.p ^ D.k
  | 0 => fun a ha => by rw [List.eq_of_mem_replicate ha]; exact Nat.pow_pos h.p0
  | i + 1 => by
    simp only [thR]
    exact addmF_lt h _ _ _ _ (thR_lt h xs ys n i)
theorem misF_lt {D : FD} (h : PK D.p D.k D.m) (R : List Nat) (x y : Nat) : misF D R x y < D.p ^ D.k := padd_lt h _ _
theorem lin_lt {D : FD} (h : PK D.p D.k D.m) (a : Nat) : ∀ c ∈ [pscl D.p D.k (D.p - 1) a, 1], c < D.p ^ D.k := fun c hc => by
  rcases List.mem_cons.1 hc with rfl | hc
  · exact pscl_lt h _ _
  · rw [List.mem_singleton.1 hc]; exact h.one_lt
section
variable {D : FD} (hD : D.Ok) {xs ys : List Nat} (hx : ∀ a ∈ xs, a < D.p ^ D.k) (hy : ∀ a ∈ ys, a < D.p ^ D.k)
/-- The place i as an element. -/
def plE {D : FD} (hD : D.Ok) (xs : List Nat) (i : Nat) : El (D.p ^ D.k) := toE hD.pre.pk (xs[i]?.getD 0)
theorem toE_inj {D : FD} (h : PK D.p D.k D.m) {a b : Nat} (ha : a < D.p ^ D.k) (hb : b < D.p ^ D.k) (e : toE h a = toE h b) : a = b := by
  have := congrArg Subtype.val e
  rw [toE_val h ha, toE_val h hb] at this
  exact this
include hD hx
theorem at_lt (i : Nat) : xs[i]?.getD 0 < D.p ^ D.k := getD_lt (Nat.pow_pos hD.pre.pk.p0) hx i
theorem thV_ev (i : Nat) (x : El (D.p ^ D.k)) : evE hD (thV D xs (i + 1)) x = (FD.dom hD.nzd).mul (evE hD (thV D xs i) x) ((FD.dom hD.nzd).add x ((FD.dom hD.nzd).neg (plE hD xs i))) := by
  simp only [thV]
  rw [evE_mulL hD (thV_lt hD.pre.pk xs i) (lin_lt hD.pre.pk _), evE_lin hD (at_lt hD hx i)]
  rfl
theorem thV_zero : ∀ (i j : Nat), j < i → evE hD (thV D xs i) (plE hD xs j) = (FD.dom hD.nzd).zero
  | 0, _, h => by omega
  | i + 1, j, h => by
    rw [thV_ev hD hx]
    by_cases e : j = i
    · subst e
      rw [Dom.add_neg, Dom.mul_zero]
    · rw [thV_zero i j (by omega), Dom.zero_mul]
theorem thV_one (x : El (D.p ^ D.k)) : evE hD (thV D xs 0) x = (FD.dom hD.nzd).one := by
  show (FD.dom hD.nzd).add (toE hD.pre.pk 1) ((FD.dom hD.nzd).mul x (FD.dom hD.nzd).zero) = _
  rw [Dom.mul_zero, Dom.add_zero, toE_one hD]
theorem thV_ne (x : El (D.p ^ D.k)) : ∀ (i : Nat), (∀ j, j < i → x ≠ plE hD xs j) → evE hD (thV D xs i) x ≠ (FD.dom hD.nzd).zero
  | 0, _ => by
    rw [thV_one hD hx]
    exact (FD.dom hD.nzd).one_ne
  | i + 1, h => by
    rw [thV_ev hD hx]
    exact Dom.mul_ne _ (thV_ne x i fun j hj => h j (by omega)) fun e => h i (by omega) (Dom.eq_of_sub _ e)
theorem thA_ev (i : Nat) : toE hD.pre.pk (thA D xs i) = evE hD (thV D xs i) (plE hD xs i) := horn_ev hD (thV_lt hD.pre.pk xs i) (at_lt hD hx i)
theorem thA_lt (i : Nat) : thA D xs i < D.p ^ D.k := hornF_lt hD.pre.pk _ _ _
/-- It is 0 just if the place was there before. -/
theorem thA_dup {i : Nat} (h : thA D xs i = 0) : ∃ j, j < i ∧ xs[i]?.getD 0 = xs[j]?.getD 0 := by
  apply Classical.byContradiction
  intro hc
  refine thV_ne hD hx (plE hD xs i) i (fun j hj e => hc ⟨j, hj, toE_inj hD.pre.pk (at_lt hD hx i) (at_lt hD hx j) e⟩) ?_
  rw [← thA_ev hD hx, h, toE_zero hD]
theorem thA_ok {i : Nat} (h : thA D xs i ≠ 0) : ∀ j, j < i → xs[i]?.getD 0 ≠ xs[j]?.getD 0 := fun j hj e => by
  apply h
  refine toE_inj hD.pre.pk (thA_lt hD hx i) (Nat.pow_pos hD.pre.pk.p0) ?_
  rw [thA_ev hD hx, toE_zero hD, show plE hD xs i = plE hD xs j from by unfold plE; rw [e]]
  exact thV_zero hD hx i j hj
include hy
theorem thR_ev {n : Nat} : ∀ (i : Nat), i ≤ n → (∀ a, a < i → thA D xs a ≠ 0) → ∀ j, j < i → evE hD (thR D hD.pre.pk xs ys n i) (plE hD xs j) = plE hD ys j
  | 0, _, _, j, hj => by omega
  | i + 1, hi, hA, j, hj => by
    have hk := hD.pre.pk
    have hc : pmul D.p D.k D.m (misF D (thR D hk xs ys n i) (xs[i]?.getD 0) (ys[i]?.getD 0)) D.k (ppow hk (thA D xs i) (D.q - 2)) < D.p ^ D.k := pmul_lt hk _ _ _
    simp only [thR]
    rw [evE_addm hD _ _ _ (thR_lt hk xs ys n i) (thV_lt hk xs i) hc (by rw [thV_len, thR_len]; omega), Dom.pow_zero, Dom.one_mul]
    by_cases e : j = i
    · subst e
      have hAi := hA j (by omega)
      rw [← thA_ev hD hx, ← toE_mul hD hc (thA_lt hD hx j)]
      have e1 : pmul D.p D.k D.m (pmul D.p D.k D.m (misF D (thR D hk xs ys n j) (xs[j]?.getD 0) (ys[j]?.getD 0)) D.k (ppow hk (thA D xs j) (D.q - 2))) D.k (thA D xs j) = misF D (thR D hk xs ys n j) (xs[j]?.getD 0) (ys[j]?.getD 0) := by
        rw [mul_swap hk (misF_lt hk _ _ _) (thA_lt hD hx j) (ppow_lt hk _ _), hD.div_mul (misF_lt hk _ _ _) (thA_lt hD hx j) hAi]
      rw [e1]
      unfold misF
      rw [toE_add hD (at_lt hD hy j) (pscl_lt hk _ _), toE_neg hD (hornF_lt hk _ _ _), horn_ev hD (thR_lt hk xs ys n j) (at_lt hD hx j)]
      show (FD.dom hD.nzd).add (evE hD (thR D hk xs ys n j) (plE hD xs j)) ((FD.dom hD.nzd).add (plE hD ys j) ((FD.dom hD.nzd).neg (evE hD (thR D hk xs ys n j) (plE hD xs j)))) = _
      generalize evE hD (thR D hk xs ys n j) (plE hD xs j) = u
      rw [Dom.add_comm _ (plE hD ys j), ← Dom.add_assoc, Dom.add_neg, Dom.zero_add]
    · rw [thV_zero hD hx i j (by omega), Dom.mul_zero, Dom.add_zero]
      exact thR_ev i (by omega) (fun a ha => hA a (by omega)) j (by omega)
end
end FFld
end Go.Proofs.Ytfhhnfpapgfnmaa

set_option linter.unusedVariables false
set_option linter.unusedSimpArgs false
set_option linter.unusedSectionVars false
namespace Go.Proofs.Ytfhhnfpapgfnmaa
namespace FFld
/-- The sum of two polynomials, with zeros at its end. -/
def sumL (D : FD) (p q : List Nat) : List Nat := (List.range (max p.length q.length)).map fun i => padd D.p D.k (p[i]?.getD 0) (q[i]?.getD 0)
theorem sumL_len (D : FD) (p q : List Nat) : (sumL D p q).length = max p.length q.length := by simp [sumL]
theorem sumL_lt {D : FD} (h : PK D.p D.k D.m) (p q : List Nat) : ∀ a ∈ sumL D p q, a < D.p ^ D.k := fun a ha => by
  obtain ⟨i, _, rfl⟩ := List.mem_map.1 ha
  exact padd_lt h _ _
/-- Lagrange's way: the polynomial of the point i, with the factors of the first k places. -/
def lgL (D : FD) (h : PK D.p D.k D.m) (xs : List Nat) (y i : Nat) : Nat → List Nat
  | 0 => [y]
  | k + 1 => if k = i then lgL D h xs y i k else trm (rowMul D (mulL D (lgL D h xs y i k) [pscl D.p D.k (D.p - 1) (xs[k]?.getD 0), 1]) (ppow h (padd D.p D.k (xs[i]?.getD 0) (pscl D.p D.k (D.p - 1) (xs[k]?.getD 0))) (D.q - 2)))
def lgO (D : FD) (h : PK D.p D.k D.m) (xs ys : List Nat) (n : Nat) : Nat → List Nat
  | 0 => []
  | i + 1 => trm (sumL D (lgO D h xs ys n i) (trm (lgL D h xs (ys[i]?.getD 0) i n)))
theorem mulL_lin (D : FD) (l : List Nat) (a b : Nat) : (mulL D l [a, b]).length ≤ l.length + 1 := by
  unfold mulL
  split
  · simp
  · rw [mulF_len]; simp
theorem trm_len_le (l : List Nat) : (trm l).length ≤ l.length := by
  rw [trm_len]
  exact trmN_le l _
theorem lgL_len (D : FD) (h : PK D.p D.k D.m) (xs : List Nat) (y i : Nat) : ∀ k, (lgL D h xs y i k).length ≤ if i < k then k else k + 1
  | 0 => by simp [lgL]
  | k + 1 => by
    have ih := lgL_len D h xs y i k
    simp only [lgL]
    by_cases e : k = i
    · rw [if_pos e]
      rw [if_neg (by omega)] at ih
      rw [if_pos (by omega)]
      exact ih
    · rw [if_neg e]
      have h1 := trm_len_le (rowMul D (mulL D (lgL D h xs y i k) [pscl D.p D.k (D.p - 1) (xs[k]?.getD 0), 1]) (ppow h (padd D.p D.k (xs[i]?.getD 0) (pscl D.p D.k (D.p - 1) (xs[k]?.getD 0))) (D.q - 2)))
      rw [rowMul_len] at h1
      have h2 := mulL_lin D (lgL D h xs y i k) (pscl D.p D.k (D.p - 1) (xs[k]?.getD 0)) 1
      by_cases e2 : i < k
      · rw [if_pos e2] at ih
        rw [if_pos (by omega)]
        omega
      · rw [if_neg e2] at ih
        rw [if_neg (by omega)]
        omega
theorem lgO_tz (D : FD) (h : PK D.p D.k D.m) (xs ys : List Nat) (n : Nat) : ∀ i, Tz (lgO D h xs ys n i)
  | 0 => .inl rfl
  | i + 1 => trm_tz _
theorem lgO_len (D : FD) (h : PK D.p D.k D.m) (xs ys : List Nat) (n : Nat) : ∀ i, i ≤ n → (lgO D h xs ys n i).length ≤ n
  | 0, _ => Nat.zero_le _
  | i + 1, hi => by
    simp only [lgO]
    have h1 := trm_len_le (sumL D (lgO D h xs ys n i) (trm (lgL D h xs (ys[i]?.getD 0) i n)))
    rw [sumL_len] at h1
    have h2 := lgO_len D h xs ys n i (by omega)
    have h3 := trm_len_le (lgL D h xs (ys[i]?.getD 0) i n)
    have h4 := lgL_len D h xs (ys[i]?.getD 0) i n
    rw [if_pos (by omega)] at h4
    omega
theorem lgO_lt {D : FD} (h : PK D.p D.k D.m) (xs ys : List Nat) (n : Nat) : ∀ i, ∀ a ∈ lgO D h xs ys n i, a < D.p ^ D.k
  | 0 => fun a ha => absurd ha List.not_mem_nil
  | i + 1 => trm_lt (sumL_lt h _ _)
theorem rowMul_lt {D : FD} (h : PK D.p D.k D.m) (l : List Nat) (c : Nat) : ∀ a ∈ rowMul D l c, a < D.p ^ D.k := fun a ha => by
  obtain ⟨x, _, rfl⟩ := List.mem_map.1 ha
  exact pmul_lt h _ _ _
theorem lgL_lt {D : FD} (h : PK D.p D.k D.m) (xs : List Nat) {y : Nat} (hy : y < D.p ^ D.k) (i : Nat) : ∀ k, ∀ a ∈ lgL D h xs y i k, a < D.p ^ D.k
  | 0 => fun a ha => by rw [List.mem_singleton.1 ha]; exact hy
  | k + 1 => by
    simp only [lgL]
    split
    · exact lgL_lt h xs hy i k
    · exact trm_lt (rowMul_lt h _ _)
section
variable {D : FD} (hD : D.Ok) {xs ys : List Nat} (hx : ∀ a ∈ xs, a < D.p ^ D.k) (hy : ∀ a ∈ ys, a < D.p ^ D.k)
include hD
theorem sumL_ev {p q : List Nat} (hp : ∀ a ∈ p, a < D.p ^ D.k) (hq : ∀ a ∈ q, a < D.p ^ D.k) (x : El (D.p ^ D.k)) : evE hD (sumL D p q) x = (FD.dom hD.nzd).add (evE hD p x) (evE hD q x) := by
  have hk := hD.pre.pk
  rw [evE_sum hD (sumL D p q) x (n := max p.length q.length) (by rw [sumL_len]; exact Nat.le_refl _), evE_sum hD p x (n := max p.length q.length) (by omega), evE_sum hD q x (n := max p.length q.length) (by omega), ← Dom.sm_add]
  exact Dom.sm_congr _ _ fun i hi => by
    have e : (sumL D p q)[i]?.getD 0 = padd D.p D.k (p[i]?.getD 0) (q[i]?.getD 0) := range_get _ hi
    unfold cfE
    rw [e, toE_add hD (getD_lt (Nat.pow_pos hk.p0) hp i) (getD_lt (Nat.pow_pos hk.p0) hq i), Dom.add_mul]
include hx
theorem inv_ev {c : Nat} (hc : c < D.p ^ D.k) (h0 : c ≠ 0) : (FD.dom hD.nzd).mul (toE hD.pre.pk (ppow hD.pre.pk c (D.q - 2))) (toE hD.pre.pk c) = (FD.dom hD.nzd).one := by
  have hk := hD.pre.pk
  have h := hD.div_mul (a := 1) (b := c) hk.one_lt hc h0
  rw [pmul_comm hk _ _ hk.one_lt hc, pmul_by_one hk _ hc] at h
  rw [← toE_mul hD (ppow_lt hk _ _) hc, pmul_comm hk _ _ (ppow_lt hk _ _) hc, h, toE_one hD]
/-- x - a, of two places. -/
theorem diff_ev (i k : Nat) : toE hD.pre.pk (padd D.p D.k (xs[i]?.getD 0) (pscl D.p D.k (D.p - 1) (xs[k]?.getD 0))) = (FD.dom hD.nzd).add (plE hD xs i) ((FD.dom hD.nzd).neg (plE hD xs k)) := by
  rw [toE_add hD (at_lt hD hx i) (pscl_lt hD.pre.pk _ _), toE_neg hD (at_lt hD hx k)]
  rfl
theorem diff_ne {i k : Nat} (h : xs[i]?.getD 0 ≠ xs[k]?.getD 0) : padd D.p D.k (xs[i]?.getD 0) (pscl D.p D.k (D.p - 1) (xs[k]?.getD 0)) ≠ 0 := fun e => by
  have := diff_ev hD hx i k
  rw [e, toE_zero hD] at this
  exact h (toE_inj hD.pre.pk (at_lt hD hx i) (at_lt hD hx k) (Dom.eq_of_sub _ this.symm))
theorem lgL_ev {y : Nat} (hy : y < D.p ^ D.k) (i k : Nat) (hki : k ≠ i) (x : El (D.p ^ D.k)) : evE hD (lgL D hD.pre.pk xs y i (k + 1)) x = (FD.dom hD.nzd).mul (toE hD.pre.pk (ppow hD.pre.pk (padd D.p D.k (xs[i]?.getD 0) (pscl D.p D.k (D.p - 1) (xs[k]?.getD 0))) (D.q - 2))) ((FD.dom hD.nzd).mul (evE hD (lgL D hD.pre.pk xs y i k) x) ((FD.dom hD.nzd).add x ((FD.dom hD.nzd).neg (plE hD xs k)))) := by
  have hk := hD.pre.pk
  simp only [lgL]
  rw [if_neg hki, evE_trm, evE_row hD _ (mulL_lt hk _ _) (ppow_lt hk _ _), evE_mulL hD (lgL_lt hk xs hy i k) (lin_lt hk _), evE_lin hD (at_lt hD hx k)]
  rfl
theorem lgL_own {n y i : Nat} (hy : y < D.p ^ D.k) (hd : ∀ a b, a < n → b < n → a ≠ b → xs[a]?.getD 0 ≠ xs[b]?.getD 0) (hi : i < n) : ∀ k, k ≤ n → evE hD (lgL D hD.pre.pk xs y i k) (plE hD xs i) = toE hD.pre.pk y
  | 0, _ => by
    show (FD.dom hD.nzd).add (toE hD.pre.pk y) ((FD.dom hD.nzd).mul (plE hD xs i) (FD.dom hD.nzd).zero) = _
    rw [Dom.mul_zero, Dom.add_zero]
  | k + 1, hk1 => by
    by_cases e : k = i
    · have : lgL D hD.pre.pk xs y i (k + 1) = lgL D hD.pre.pk xs y i k := by simp only [lgL]; rw [if_pos e]
      rw [this]
      exact lgL_own hy hd hi k (by omega)
    · rw [lgL_ev hD hx hy i k e, lgL_own hy hd hi k (by omega), ← diff_ev hD hx i k, Dom.mul_comm _ (toE hD.pre.pk y), ← Dom.mul_assoc, inv_ev hD hx (padd_lt hD.pre.pk _ _) (diff_ne hD hx (hd i k hi (by omega) (fun h => e h.symm))), Dom.one_mul]
theorem lgL_other {y i j : Nat} (hy : y < D.p ^ D.k) (hji : j ≠ i) : ∀ k, j < k → evE hD (lgL D hD.pre.pk xs y i k) (plE hD xs j) = (FD.dom hD.nzd).zero
  | 0, h => by omega
  | k + 1, h => by
    by_cases e : k = i
    · have : lgL D hD.pre.pk xs y i (k + 1) = lgL D hD.pre.pk xs y i k := by simp only [lgL]; rw [if_pos e]
      rw [this]
      exact lgL_other hy hji k (by omega)
    · rw [lgL_ev hD hx hy i k e]
      by_cases e2 : j = k
      · subst e2
        rw [Dom.add_neg, Dom.mul_zero, Dom.mul_zero]
      · rw [lgL_other hy hji k (by omega), Dom.zero_mul, Dom.mul_zero]
include hy
theorem lgO_ev {n : Nat} (hd : ∀ a b, a < n → b < n → a ≠ b → xs[a]?.getD 0 ≠ xs[b]?.getD 0) : ∀ i, i ≤ n → ∀ j, j < n → evE hD (lgO D hD.pre.pk xs ys n i) (plE hD xs j) = if j < i then plE hD ys j else (FD.dom hD.nzd).zero
  | 0, _, j, _ => by rw [if_neg (by omega)]; rfl
  | i + 1, hi, j, hj => by
    have hk := hD.pre.pk
    have hyi := at_lt hD hy i
    simp only [lgO]
    rw [evE_trm, sumL_ev hD (lgO_lt hk xs ys n i) (trm_lt (lgL_lt hk xs hyi i n)), evE_trm, lgO_ev hd i (by omega) j hj]
    by_cases e : j = i
    · subst e
      rw [if_neg (by omega), if_pos (by omega), lgL_own hD hx hyi hd hj n (Nat.le_refl _), Dom.zero_add]
      rfl
    · rw [lgL_other hD hx hyi e n hj, Dom.add_zero]
      by_cases e2 : j < i
      · rw [if_pos e2, if_pos (by omega)]
      · rw [if_neg e2, if_neg (by omega)]
/-- Newton's polynomial is Lagrange's. -/
theorem newton_lagrange {n : Nat} (ln : xs.length = n) (hA : ∀ a, a < n → thA D xs a ≠ 0) : trm (thR D hD.pre.pk xs ys n n) = lgO D hD.pre.pk xs ys n n := by
  have hk := hD.pre.pk
  have hd : ∀ a b, a < n → b < n → a ≠ b → xs[a]?.getD 0 ≠ xs[b]?.getD 0 := fun a b ha hb hne => by
    rcases Nat.lt_or_gt_of_ne hne with h | h
    · exact fun e => thA_ok hD hx (hA b hb) a h e.symm
    · exact thA_ok hD hx (hA a ha) b h
  have hlt := thR_lt hk xs ys n n
  refine interp hD (n := n) (trm_lt hlt) (lgO_lt hk xs ys n n) (trm_tz _) (lgO_tz D hk xs ys n n) (Nat.le_trans (trm_len_le _) (by rw [thR_len]; exact Nat.le_refl _)) (lgO_len D hk xs ys n n (Nat.le_refl _)) ((List.range n).map (plE hD xs)) ?_ (by simp) ?_
  · rw [List.nodup_iff_pairwise_ne, List.pairwise_map]
    refine List.Pairwise.imp_of_mem ?_ List.nodup_range
    intro a b ha hb hne e
    exact hd a b (List.mem_range.1 ha) (List.mem_range.1 hb) hne (toE_inj hk (at_lt hD hx a) (at_lt hD hx b) e)
  · intro r hr
    obtain ⟨j, hj, rfl⟩ := List.mem_map.1 hr
    have hj' := List.mem_range.1 hj
    rw [evE_trm, thR_ev hD hx hy n (Nat.le_refl _) (fun a ha => hA a ha) j hj', lgO_ev hD hx hy hd n (Nat.le_refl _) j hj', if_pos hj']
end
end FFld
end Go.Proofs.Ytfhhnfpapgfnmaa

set_option linter.unusedVariables false
set_option linter.unusedSimpArgs false
namespace Go.Proofs.Ytfhhnfpapgfnmaa
open Go Go.RowKit Go.Deep
open FFld (ints)
theorem sumL_next {D : FFld.FD} {p q l : List Nat} {i : Nat} (h : (List.range i).map (fun i => FFld.padd D.p D.k (p[i]?.getD 0) (q[i]?.getD 0)) = l) {v : Nat} (hv : FFld.padd D.p D.k (p[i]?.getD 0) (q[i]?.getD 0) = v) : (List.range (i + 1)).map (fun i => FFld.padd D.p D.k (p[i]?.getD 0) (q[i]?.getD 0)) = l ++ [v] := by
  rw [List.range_succ, List.map_append, h, List.map_cons, List.map_nil, hv]
set_option maxRecDepth 20000 in
set_option maxHeartbeats 8000000 in
/-- The reference's Sum. -/
theorem rpsum_any {D : FFld.FD} (hD : D.Ok) (vp vq : Value) (pl ql : List Nat) (w : World) (hp : Sl .i64 w vp (ints pl)) (hq : Sl .i64 w vq (ints ql)) (hpq : ∀ a ∈ pl, a < D.p ^ D.k) (hqq : ∀ a ∈ ql, a < D.p ^ D.k) (hpl : pl.length ≤ 1000) (hqll : ql.length ≤ 1000) :
    Calls Try.prog 119 #[rfv D.q D.p D.k D.m, vp, vq] w (fun e w' => Below w.heap.size w w' ∧ ∃ v, e = .returned v ∧ Sl .i64 w' v (ints (FFld.trm (FFld.sumL D pl ql)))) := by
  obtain ⟨ap, cp, hvp, hcp, hmp⟩ := hp.form
  obtain ⟨aq, cq, hvq, hcq, hmq⟩ := hq.form
  subst hvp hvq
  have hk := hD.pre.pk
  have HX0 : Kept (Bxs w [rbox D.q D.p D.k D.m] (w.alloc (rbox D.q D.p D.k D.m))) := ⟨(Bxs.start w).alloc (by simp) _⟩
  have hq6 : D.p ^ D.k ≤ 65536 := hD.pre.small
  have HPS := Kept.mk hp
  have HQS := Kept.mk hq
  have HPQ := Kept.mk hpq
  have HQQ := Kept.mk hqq
  obtain ⟨np, hnp⟩ : ∃ n, pl.length = n := ⟨_, rfl⟩
  obtain ⟨nq, hnq⟩ : ∃ n, ql.length = n := ⟨_, rfl⟩
  rw [FFld.ints_len, hnp] at hcp HPS ⊢
  rw [FFld.ints_len, hnq] at hcq HQS ⊢
  rw [hnp] at hpl
  rw [hnq] at hqll
  have HNP := Kept.mk hnp
  have HNQ := Kept.mk hnq
  have HA := Kept.mk (fun W a b (ha : a < D.p ^ D.k) (hb : b < D.p ^ D.k) => radd_any D.q D.p D.k D.m a b W hk.p2 hk.k1 ha hb hq6)
  obtain ⟨n, hn⟩ : ∃ n, max np nq = n := ⟨_, rfl⟩
  have HT : Kept (FFld.sumL D pl ql = (List.range n).map (fun i => FFld.padd D.p D.k (pl[i]?.getD 0) (ql[i]?.getD 0))) := ⟨by unfold FFld.sumL; rw [HNP.out, HNQ.out, hn]⟩
  have hn1 : np ≤ n := by omega
  have hn2 : nq ≤ n := by omega
  have hn3 : ∀ i, ¬ i < np → ¬ i < nq → n ≤ i := fun i h1 h2 => by omega
  have HN3 := Kept.mk hn3
  have hnn : n ≤ 1000 := by omega
  have HZ := Kept.mk (Nat.pow_pos (n := D.k) hk.p0)
  clear hp hq hpq hqq hnp hnq hq6 hn hn3
  go_enter Try.func119, Try.ntmps119
  go_wp2
  go_loopw [7, 8] (fun ov iv wr => ∃ (i : Nat) (l : List Nat), i ≤ n ∧ iv = .int .i64 i ∧ l.length = i ∧ Kept ((List.range i).map (fun i => FFld.padd D.p D.k (pl[i]?.getD 0) (ql[i]?.getD 0)) = l) ∧ Kept (Mine 3 .i64 (w.heap.size + 1) wr ov (ints l)) ∧ Kept (Bxs w [rbox D.q D.p D.k D.m] wr)) (fun _ iv _ => n - (intOf iv).toNat)
  case atStart => exact ⟨0, [], Nat.zero_le _, rfl, rfl, ⟨rfl⟩, ⟨Mine.nil _ _ _ _⟩, HX0⟩
  case round =>
    obtain ⟨i, l, hik, rfl, hll, hat, hmn, hbx⟩ := hrel
    obtain ⟨ov0, oc, rfl, hoc, hom⟩ := hmn.out.sl.form
    rw [FFld.ints_len, hll] at hoc hmn ⊢
    obtain ⟨x, hx⟩ : ∃ x, pl[i]?.getD 0 = x := ⟨_, rfl⟩
    obtain ⟨y, hy⟩ : ∃ y, ql[i]?.getD 0 = y := ⟨_, rfl⟩
    have hxq : x < D.p ^ D.k := by rw [← hx]; exact FFld.getD_lt (Nat.pow_pos hk.p0) HPQ.out i
    have hyq : y < D.p ^ D.k := by rw [← hy]; exact FFld.getD_lt (Nat.pow_pos hk.p0) HQQ.out i
    obtain ⟨v, hv⟩ : ∃ v, FFld.padd D.p D.k x y = v := ⟨_, rfl⟩
    have HLV := Kept.mk (sumL_next hat.out (v := v) (by rw [hx, hy]; exact hv))
    have H1 := Kept.mk (show ((ints l).length + [(v : Int)].length) * 8 ≤ 140737488355328 by rw [FFld.ints_len, hll]; simp; omega)
    have H2 := Kept.mk (show (ints l).length + [(v : Int)].length ≤ maxLen by rw [FFld.ints_len, hll]; unfold maxLen; simp; omega)
    obtain ⟨i0, i1, i2, i3⟩ := four_cells hbx.out.b0
    have hA := Kept.mk (fun W => HA.out W x y hxq hyq)
    rw [hv] at hA
    by_cases hlp : i < np
    · have hin : i < n := by omega
      obtain ⟨bp, op, rfl, hbp, ip⟩ := (HPS.out.below hbx.out.1).news_at i (by rw [FFld.ints_len, HNP.out]; exact hlp)
      rw [FFld.ints_get, hx] at ip
      by_cases hlq : i < nq
      · obtain ⟨bq, oq, rfl, hbq, iq⟩ := (HQS.out.below hbx.out.1).news_at i (by rw [FFld.ints_len, HNQ.out]; exact hlq)
        rw [FFld.ints_get, hy] at iq
        clear hx hy hxq hyq hv
        go_wp2
        go_region_held3 (fun w' => w'.cell? ⟨w.heap.size, 0, none⟩ = some (.int .i64 D.q) ∧ w'.cell? ⟨w.heap.size, 1, none⟩ = some (.int .i64 D.p) ∧ w'.cell? ⟨w.heap.size, 2, none⟩ = some (.int .i64 D.k) ∧ w'.cell? ⟨w.heap.size, 3, none⟩ = some (.int .i64 D.m) ∧ w'.cell? ⟨bq, oq + i, none⟩ = some (.int .i64 y))
          (first | exact ⟨j0, j1, j2, j3, jq⟩ | exact ⟨i0, i1, i2, i3, iq⟩ | go_keep)
          ((first
            | (go_at_call 52; (with_reducible refine (hA.out _).mono ?_); rintro e w3 ⟨hb3, rfl⟩; have HWW := Kept.mk (bstep (show Below wr.heap.size wr _ from (by first | exact Below.refl _ _ | exact (Below.refl _ _).drew)) hb3); clear hb3; have j0 := belowCell HWW.out i0; have j1 := belowCell HWW.out i1; have j2 := belowCell HWW.out i2; have j3 := belowCell HWW.out i3; have jq := belowCell HWW.out iq)))
        have hal : Below w3.heap.size w3 (w3.alloc (.cells #[.int .i64 (v : Int)] 3)) := (Below.refl _ _).alloc (Nat.le_refl _) _
        have HM3 := Kept.mk ((hmn.out.below HWW.out).alloc (.cells #[.int .i64 (v : Int)] 3))
        have HNW := Kept.mk (new_one (K := .i64) (x := (v : Int)) (w := w3.alloc (.cells #[.int .i64 (v : Int)] 3)) (b := w3.heap.size) (o := 0) (by exact (Row.new (E := 3) (K := .i64) w3 [(v : Int)]).cell (i := 0) (by simp)))
        have hX3 := hbx.out.below HWW.out
        have HBB := Kept.mk (show w.heap.size + 1 ≤ (w3.alloc (.cells #[.int .i64 (v : Int)] 3)).heap.size by have := hX3.l1; simp; omega)
        have HXA := Kept.mk (hX3.below hal)
        have HOW := Kept.mk HM3.out.own
        clear hX3 hal
        go_wp2_with (at_builtin; refine wpList_append_mine _ rfl _ _ 34 (by rfl) 3 .i64 8 Try.underlying34 info_i64 (w.heap.size + 1) (.slice ov0 i oc) (ints l) (by rfl) HM3.out HBB.out ⟨w3.heap.size, 0, none⟩ 1 1 [(v : Int)] (by rfl) rfl HNW.out H1.out H2.out ?_)
        intro v' w5 hm5 hg5 hn5
        have HM5 := Kept.mk hm5
        have HX5 := Kept.mk (HXA.out.grown hg5 (fun j hj => (HOW.out j hj).1))
        clear hm5 hg5 hn5
        go_wp2
        go_roundw
        case rel => exact ⟨i + 1, l ++ [v], by omega, by go_num, by simp [hll], HLV, ⟨by rw [FFld.ints_append]; exact HM5.out⟩, HX5⟩
        case measure => simp [intOf] <;> omega
      · have hy0 : y = 0 := by rw [← hy, List.getElem?_eq_none (by rw [HNQ.out]; omega)]; rfl
        have hvx : v = x := by rw [← hv, hy0]; exact FFld.padd_zero hk _ hxq
        subst hvx
        have HWW := Kept.mk (Below.refl wr.heap.size wr)
        clear hx hy hxq hyq hv i0 i1 i2 i3 hA hy0
        have hal : Below wr.heap.size wr (wr.alloc (.cells #[.int .i64 (v : Int)] 3)) := (Below.refl _ _).alloc (Nat.le_refl _) _
        have HM3 := Kept.mk ((hmn.out.below HWW.out).alloc (.cells #[.int .i64 (v : Int)] 3))
        have HNW := Kept.mk (new_one (K := .i64) (x := (v : Int)) (w := wr.alloc (.cells #[.int .i64 (v : Int)] 3)) (b := wr.heap.size) (o := 0) (by exact (Row.new (E := 3) (K := .i64) wr [(v : Int)]).cell (i := 0) (by simp)))
        have hX3 := hbx.out.below HWW.out
        have HBB := Kept.mk (show w.heap.size + 1 ≤ (wr.alloc (.cells #[.int .i64 (v : Int)] 3)).heap.size by have := hX3.l1; simp; omega)
        have HXA := Kept.mk (hX3.below hal)
        have HOW := Kept.mk HM3.out.own
        clear hX3 hal
        go_wp2_with (at_builtin; refine wpList_append_mine _ rfl _ _ 34 (by rfl) 3 .i64 8 Try.underlying34 info_i64 (w.heap.size + 1) (.slice ov0 i oc) (ints l) (by rfl) HM3.out HBB.out ⟨wr.heap.size, 0, none⟩ 1 1 [(v : Int)] (by rfl) rfl HNW.out H1.out H2.out ?_)
        intro v' w5 hm5 hg5 hn5
        have HM5 := Kept.mk hm5
        have HX5 := Kept.mk (HXA.out.grown hg5 (fun j hj => (HOW.out j hj).1))
        clear hm5 hg5 hn5
        go_wp2
        go_roundw
        case rel => exact ⟨i + 1, l ++ [v], by omega, by go_num, by simp [hll], HLV, ⟨by rw [FFld.ints_append]; exact HM5.out⟩, HX5⟩
        case measure => simp [intOf] <;> omega
    · by_cases hlq : i < nq
      · have hin : i < n := by omega
        obtain ⟨bq, oq, rfl, hbq, iq⟩ := (HQS.out.below hbx.out.1).news_at i (by rw [FFld.ints_len, HNQ.out]; exact hlq)
        rw [FFld.ints_get, hy] at iq
        have hx0 : x = 0 := by rw [← hx, List.getElem?_eq_none (by rw [HNP.out]; omega)]; rfl
        subst hx0
        have hA0 : Kept (∀ W, Calls Try.prog 52 #[rfv D.q D.p D.k D.m, .int .i64 0, .int .i64 y] W (RB W (.int .i64 (v : Nat)))) := ⟨fun W => hA.out W⟩
        clear hx hy hxq hyq hv hA
        have hA := hA0
        clear hA0
        go_wp2
        go_region_held3 (fun w' => w'.cell? ⟨w.heap.size, 0, none⟩ = some (.int .i64 D.q) ∧ w'.cell? ⟨w.heap.size, 1, none⟩ = some (.int .i64 D.p) ∧ w'.cell? ⟨w.heap.size, 2, none⟩ = some (.int .i64 D.k) ∧ w'.cell? ⟨w.heap.size, 3, none⟩ = some (.int .i64 D.m) ∧ w'.cell? ⟨bq, oq + i, none⟩ = some (.int .i64 y))
          (first | exact ⟨j0, j1, j2, j3, jq⟩ | exact ⟨i0, i1, i2, i3, iq⟩ | go_keep)
          ((first
            | (go_at_call 52; (with_reducible refine (hA.out _).mono ?_); rintro e w3 ⟨hb3, rfl⟩; have HWW := Kept.mk (bstep (show Below wr.heap.size wr _ from (by first | exact Below.refl _ _ | exact (Below.refl _ _).drew)) hb3); clear hb3; have j0 := belowCell HWW.out i0; have j1 := belowCell HWW.out i1; have j2 := belowCell HWW.out i2; have j3 := belowCell HWW.out i3; have jq := belowCell HWW.out iq)))
        have hal : Below w3.heap.size w3 (w3.alloc (.cells #[.int .i64 (v : Int)] 3)) := (Below.refl _ _).alloc (Nat.le_refl _) _
        have HM3 := Kept.mk ((hmn.out.below HWW.out).alloc (.cells #[.int .i64 (v : Int)] 3))
        have HNW := Kept.mk (new_one (K := .i64) (x := (v : Int)) (w := w3.alloc (.cells #[.int .i64 (v : Int)] 3)) (b := w3.heap.size) (o := 0) (by exact (Row.new (E := 3) (K := .i64) w3 [(v : Int)]).cell (i := 0) (by simp)))
        have hX3 := hbx.out.below HWW.out
        have HBB := Kept.mk (show w.heap.size + 1 ≤ (w3.alloc (.cells #[.int .i64 (v : Int)] 3)).heap.size by have := hX3.l1; simp; omega)
        have HXA := Kept.mk (hX3.below hal)
        have HOW := Kept.mk HM3.out.own
        clear hX3 hal
        go_wp2_with (at_builtin; refine wpList_append_mine _ rfl _ _ 34 (by rfl) 3 .i64 8 Try.underlying34 info_i64 (w.heap.size + 1) (.slice ov0 i oc) (ints l) (by rfl) HM3.out HBB.out ⟨w3.heap.size, 0, none⟩ 1 1 [(v : Int)] (by rfl) rfl HNW.out H1.out H2.out ?_)
        intro v' w5 hm5 hg5 hn5
        have HM5 := Kept.mk hm5
        have HX5 := Kept.mk (HXA.out.grown hg5 (fun j hj => (HOW.out j hj).1))
        clear hm5 hg5 hn5
        go_wp2
        go_roundw
        case rel => exact ⟨i + 1, l ++ [v], by omega, by go_num, by simp [hll], HLV, ⟨by rw [FFld.ints_append]; exact HM5.out⟩, HX5⟩
        case measure => simp [intOf] <;> omega
      · obtain rfl : i = n := Nat.le_antisymm hik (HN3.out i hlp hlq)
        have HE : Kept (FFld.sumL D pl ql = l) := ⟨by rw [HT.out]; exact hat.out⟩
        have hs := hmn.out.sl
        have HSL := Kept.mk hs
        have HTR := Kept.mk (fun W (hW : Sl .i64 W (.slice ov0 i oc) (ints l)) => rtrim_any l ov0 oc W (by rw [hll]; exact hW) (by omega))
        rw [hll] at HTR
        have HTS : Kept (Sl .i64 wr (.slice ov0 (FFld.trm l).length oc) (ints (FFld.trm l))) := ⟨trm_sl (by rw [hll]; exact hs)⟩
        clear hs hx hy hxq hyq hv i0 i1 i2 i3 hA HLV
        go_wp2_with fail
        refine (HTR.out _ HSL.out).mono ?_
        rintro e w2 ⟨rfl, rfl⟩
        go_wp2
        go_ret
        exact ⟨hbx.out.1, _, rfl, by rw [HE.out]; exact HTS.out⟩
end Go.Proofs.Ytfhhnfpapgfnmaa

set_option linter.unusedVariables false
set_option linter.unusedSimpArgs false
namespace Go.Proofs.Ytfhhnfpapgfnmaa
open Go Go.RowKit Go.Deep
open FFld (ints)
set_option maxRecDepth 20000 in
set_option maxHeartbeats 8000000 in
/-- The reference's Through: Lagrange's polynomials. -/
theorem rthrough_any {D : FFld.FD} (hD : D.Ok) (vx vy : Value) (xs ys : List Nat) (n : Nat) (w : World) (hx : Sl .i64 w vx (ints xs)) (hy : Sl .i64 w vy (ints ys)) (hxq : ∀ a ∈ xs, a < D.p ^ D.k) (hyq : ∀ a ∈ ys, a < D.p ^ D.k) (lx : xs.length = n) (ly : ys.length = n) (hn : n ≤ 200) :
    Calls Try.prog 72 #[rfv D.q D.p D.k D.m, vx, vy] w (fun e w' => Below w.heap.size w w' ∧ ∃ v, e = .returned v ∧ Sl .i64 w' v (ints (FFld.lgO D hD.pre.pk xs ys n n))) := by
  obtain ⟨ax, cx, hvx, hcx, hmx⟩ := hx.form
  obtain ⟨ay, cy, hvy, hcy, hmy⟩ := hy.form
  subst hvx hvy
  have hk := hD.pre.pk
  have HX0 : Kept (Bxs w [rbox D.q D.p D.k D.m] (w.alloc (rbox D.q D.p D.k D.m))) := ⟨(Bxs.start w).alloc (by simp) _⟩
  have hq6 : D.p ^ D.k ≤ 65536 := hD.pre.small
  rw [FFld.ints_len, lx] at hx hcx ⊢
  rw [FFld.ints_len, ly] at hy hcy ⊢
  have HX := Kept.mk hx
  have HY := Kept.mk hy
  have HXQ := Kept.mk hxq
  have HYQ := Kept.mk hyq
  have HLX := Kept.mk lx
  have HLY := Kept.mk ly
  have HN := Kept.mk (fun W a (ha : a < D.p ^ D.k) => rneg_any D.q D.p D.k D.m a W hk.p2 hk.k1 ha hq6)
  have HS := Kept.mk (fun W a c (ha : a < D.p ^ D.k) (hc : c < D.p ^ D.k) => rsub_any D.q D.p D.k D.m a c W hk ha hc hq6)
  have HI := Kept.mk (fun W a (ha : a < D.p ^ D.k) => rinv_any D.q D.p D.k D.m a W hk ha rfl hq6 (md_ok hD))
  have HPD := Kept.mk (fun vp vq pl ql W h1 h2 h3 h4 h5 h6 => rproductp_any hD vp vq pl ql W h1 h2 h3 h4 h5 h6)
  have HQ6 := Kept.mk hq6
  have hal : ∀ (z : Nat) (W : World), Below W.heap.size W (W.alloc (.cells #[.int .i64 (z : Int), .int .i64 1] 3)) := fun z W => (Below.refl _ _).alloc (Nat.le_refl _) _
  have HAL := Kept.mk hal
  clear hx hy hxq hyq lx ly hq6 hal
  go_enter Try.func72, Try.ntmps72
  go_wp2
  go_loopw [7, 8] (fun ov iv wr => ∃ (i : Nat), i ≤ n ∧ iv = .int .i64 i ∧ Kept (Sl .i64 wr ov (ints (FFld.lgO D hk xs ys n i))) ∧ Kept (Bxs w [rbox D.q D.p D.k D.m] wr)) (fun _ iv _ => n - (intOf iv).toNat)
  case atStart => exact ⟨0, Nat.zero_le _, rfl, ⟨Sl.nil _ _⟩, HX0⟩
  case round =>
    obtain ⟨i, hin, rfl, hso0, hbx0⟩ := hrel
    have hso1 := hso0.out
    obtain ⟨ao, co, rfl, hco, hmo⟩ := hso1.form
    rw [FFld.ints_len] at hco hso0 ⊢
    obtain ⟨no, hno⟩ : ∃ x, (FFld.lgO D hk xs ys n i).length = x := ⟨_, rfl⟩
    rw [hno] at hco hso0 ⊢
    have HNO := Kept.mk hno
    have hnon : no ≤ n := by rw [← hno]; exact FFld.lgO_len D hk xs ys n i hin
    clear hso1 hno
    by_cases hlt : i < n
    · obtain ⟨bx, ox, rfl, hbxx, cxi⟩ := (HX.out.below hbx0.out.1).news_at i (by rw [FFld.ints_len, HLX.out]; exact hlt)
      obtain ⟨by_, oy, rfl, hbyy, cyi⟩ := (HY.out.below hbx0.out.1).news_at i (by rw [FFld.ints_len, HLY.out]; exact hlt)
      obtain ⟨xi, hxi⟩ : ∃ x, xs[i]?.getD 0 = x := ⟨_, rfl⟩
      obtain ⟨y, hye⟩ : ∃ y, ys[i]?.getD 0 = y := ⟨_, rfl⟩
      rw [FFld.ints_get, hxi] at cxi
      rw [FFld.ints_get, hye] at cyi
      have hxiq : xi < D.p ^ D.k := by rw [← hxi]; exact FFld.at_lt hD HXQ.out i
      have hyq : y < D.p ^ D.k := by rw [← hye]; exact FFld.at_lt hD HYQ.out i
      have HXI := Kept.mk hxi
      have HYE := Kept.mk hye
      have HXIQ := Kept.mk hxiq
      have HYQ2 := Kept.mk hyq
      have hal1 : Below wr.heap.size wr (wr.alloc (.cells #[.int .i64 y] 3)) := (Below.refl _ _).alloc (Nat.le_refl _) _
      have HS1 : Kept (Sl .i64 (wr.alloc (.cells #[.int .i64 y] 3)) (.slice (some ⟨wr.heap.size, 0, none⟩) 1 1) (ints (FFld.lgL D hk xs y i 0))) := ⟨one_sln wr y⟩
      have HB1 := Kept.mk (hbx0.out.below hal1)
      have HO1 := Kept.mk (hso0.out.below hal1)
      have hxi6 : xi ≤ 65536 := by have := HQ6.out; omega
      have hy6 : y ≤ 65536 := by have := HQ6.out; omega
      clear hxi hye hxiq hyq hal1 hso0 hbx0 cxi
      obtain ⟨wz, hwz⟩ : ∃ W, W = wr := ⟨_, rfl⟩
      go_wp2
      go_loopw [9, 10] (fun lv kv wr => ∃ (k : Nat), k ≤ n ∧ kv = .int .i64 k ∧ Kept (Sl .i64 wr lv (ints (FFld.lgL D hk xs y i k))) ∧ Kept (Sl .i64 wr (.slice ao no co) (ints (FFld.lgO D hk xs ys n i))) ∧ Kept (Bxs w [rbox D.q D.p D.k D.m] wr)) (fun _ kv _ => n - (intOf kv).toNat)
      case atStart => exact ⟨0, Nat.zero_le _, rfl, HS1, HO1, HB1⟩
      case round =>
        clear HS1 HO1 HB1
        obtain ⟨k, hkn, rfl, hso, hoo, hbx⟩ := hrel
        have hso1 := hso.out
        obtain ⟨al, cl, rfl, hcl, hml⟩ := hso1.form
        rw [FFld.ints_len] at hcl hso ⊢
        obtain ⟨nl, hnl⟩ : ∃ x, (FFld.lgL D hk xs y i k).length = x := ⟨_, rfl⟩
        rw [hnl] at hcl hso ⊢
        have HNL := Kept.mk hnl
        have hnln : nl ≤ k + 1 := by
          have := FFld.lgL_len D hk xs y i k
          rw [hnl] at this
          split at this <;> omega
        obtain ⟨i0, i1, i2, i3⟩ := four_cells hbx.out.b0
        clear hso1 hnl
        by_cases hlt2 : k < n
        · by_cases hki : k = i
          · subst hki
            have ek : ((k : Int) != (k : Int)) = false := by simp
            have HE : Kept (FFld.lgL D hk xs y k (k + 1) = FFld.lgL D hk xs y k k) := ⟨by simp only [FFld.lgL]; rw [if_pos trivial]⟩
            clear i0 i1 i2 i3
            go_wp2
            go_roundw
            case rel => exact ⟨k + 1, by omega, by go_num, ⟨by rw [HE.out]; exact hso.out⟩, hoo, hbx⟩
            case measure => simp [intOf] <;> omega
          · have ek : ((k : Int) != (i : Int)) = true := by rw [bne_iff_ne]; omega
            obtain ⟨b2, o2, ee, hb22, ca⟩ := (HX.out.below hbx.out.1).news_at k (by rw [FFld.ints_len, HLX.out]; exact hlt2)
            simp only [Option.some.injEq, Addr.mk.injEq, and_true] at ee
            obtain ⟨rfl, rfl⟩ := ee
            obtain ⟨b3, o3, ee, hb33, cb⟩ := (HX.out.below hbx.out.1).news_at i (by rw [FFld.ints_len, HLX.out]; exact hlt)
            simp only [Option.some.injEq, Addr.mk.injEq, and_true] at ee
            obtain ⟨rfl, rfl⟩ := ee
            obtain ⟨xk, hxk⟩ : ∃ x, xs[k]?.getD 0 = x := ⟨_, rfl⟩
            rw [FFld.ints_get, hxk] at ca
            rw [FFld.ints_get, HXI.out] at cb
            have ia := ca
            have ib := cb
            have hxkq : xk < D.p ^ D.k := by rw [← hxk]; exact FFld.at_lt hD HXQ.out k
            obtain ⟨z, hz⟩ : ∃ z, FFld.pscl D.p D.k (D.p - 1) xk = z := ⟨_, rfl⟩
            obtain ⟨d, hd⟩ : ∃ d, FFld.padd D.p D.k xi z = d := ⟨_, rfl⟩
            have hdq : d < D.p ^ D.k := by rw [← hd]; exact FFld.padd_lt hk _ _
            obtain ⟨iv, hiv⟩ : ∃ v, FFld.ppow hk d (D.q - 2) = v := ⟨_, rfl⟩
            have hivq : iv < D.p ^ D.k := by rw [← hiv]; exact FFld.ppow_lt _ _ _
            have HLIN := Kept.mk (FFld.lin_lt hk xk)
            rw [hz] at HLIN
            have hN := Kept.mk (fun W => HN.out W xk hxkq)
            rw [hz] at hN
            have hS := Kept.mk (fun W => HS.out W xi xk HXIQ.out hxkq)
            rw [hz, hd] at hS
            have hI := Kept.mk (fun W => HI.out W d hdq)
            rw [show FFld.ppow hD.pre.pk d (D.q - 2) = iv from hiv] at hI
            obtain ⟨ml, hmul⟩ : ∃ l, FFld.mulL D (FFld.lgL D hk xs y i k) [z, 1] = l := ⟨_, rfl⟩
            have HE : Kept (FFld.lgL D hk xs y i (k + 1) = FFld.trm (FFld.rowMul D ml iv)) := ⟨by simp only [FFld.lgL]; rw [if_neg hki, hxk, HXI.out, hz, hd, hiv, hmul]⟩
            have hmll : ml.length ≤ 1000 := by
              rw [← hmul]
              have := FFld.mulL_lin D (FFld.lgL D hk xs y i k) z 1
              rw [HNL.out] at this
              omega
            have HSC := Kept.mk (fun W vo (h : Sl .i64 W vo (ints ml)) => rscale_any hD vo ml iv W h (by rw [← hmul]; exact FFld.mulL_lt hk _ _) hivq hmll)
            have HLQ := Kept.mk (FFld.lgL_lt hk xs HYQ2.out i k)
            have HLL : Kept ((FFld.lgL D hk xs y i k).length ≤ 100000) := ⟨by rw [HNL.out]; omega⟩
            obtain ⟨L, hL⟩ : ∃ L, FFld.lgL D hk xs y i k = L := ⟨_, rfl⟩
            rw [hL] at hso HLQ HLL
            have hHPD := Kept.mk (fun vp vq W h1 h2 => HPD.out vp vq L [z, 1] W h1 h2 HLQ.out HLIN.out HLL.out (by simp))
            rw [show FFld.mulL D L [z, 1] = ml from by rw [← hL]; exact hmul] at hHPD
            have hal := HAL.out z
            have hz6 : z ≤ 65536 := by have := HQ6.out; have := HLIN.out z List.mem_cons_self; omega
            have hxk6 : xk ≤ 65536 := by have := HQ6.out; omega
            have hd6 : d ≤ 65536 := by have := HQ6.out; omega
            have hiv6 : iv ≤ 65536 := by have := HQ6.out; omega
            clear ca cb hxk hxkq hz hd hdq hiv hivq hmul hmll hL hki
            go_wp2
            go_region_held3 (fun w' => w'.cell? ⟨w.heap.size, 0, none⟩ = some (.int .i64 D.q) ∧ w'.cell? ⟨w.heap.size, 1, none⟩ = some (.int .i64 D.p) ∧ w'.cell? ⟨w.heap.size, 2, none⟩ = some (.int .i64 D.k) ∧ w'.cell? ⟨w.heap.size, 3, none⟩ = some (.int .i64 D.m) ∧ w'.cell? ⟨bx, ox + k, none⟩ = some (.int .i64 xk) ∧ w'.cell? ⟨bx, ox + i, none⟩ = some (.int .i64 xi))
              (first | exact ⟨q0, q1, q2, q3, qa, qb⟩ | exact ⟨p0, p1, p2, p3, pa, pb⟩ | exact ⟨n0, n1, n2, n3, na, nb⟩ | exact ⟨m0, m1, m2, m3, ma, mb⟩ | exact ⟨l0, l1, l2, l3, la, lb⟩ | exact ⟨j0, j1, j2, j3, ja, jb⟩ | exact ⟨i0, i1, i2, i3, ia, ib⟩ | go_keep)
              ((first
                | (go_at_call 113; (with_reducible refine (hN.out _).mono ?_); rintro e v1 ⟨hb1, rfl⟩; have HC1 := Kept.mk (bstep (show Below wr.heap.size wr _ from (by first | exact Below.refl _ _ | exact (Below.refl _ _).drew)) hb1); have j0 := belowCell HC1.out i0; have j1 := belowCell HC1.out i1; have j2 := belowCell HC1.out i2; have j3 := belowCell HC1.out i3; have ja := belowCell HC1.out ia; have jb := belowCell HC1.out ib; have l0 := belowCell (hal v1) j0; have l1 := belowCell (hal v1) j1; have l2 := belowCell (hal v1) j2; have l3 := belowCell (hal v1) j3; have la := belowCell (hal v1) ja; have lb := belowCell (hal v1) jb; have HC1A := Kept.mk (bstep HC1.out (hal v1)); have HSO := Kept.mk (hso.out.below HC1A.out); have HS2 := Kept.mk (two_sl v1 (z : Int) 1); clear hb1)
                | (go_at_call 66; (refine (hHPD.out _ _ _ HSO.out HS2.out).mono ?_); rintro e v2 ⟨hb2, vo, rfl, hs2⟩; have HC2 := Kept.mk (bstep HC1A.out hb2); have m0 := belowCell HC2.out i0; have m1 := belowCell HC2.out i1; have m2 := belowCell HC2.out i2; have m3 := belowCell HC2.out i3; have ma := belowCell HC2.out ia; have mb := belowCell HC2.out ib; have HSP := Kept.mk hs2; clear hb2 hs2)
                | (go_at_call 53; (with_reducible refine (hS.out _).mono ?_); rintro e v3 ⟨hb3, rfl⟩; have HC3 := Kept.mk (bstep HC2.out hb3); have n0 := belowCell HC3.out i0; have n1 := belowCell HC3.out i1; have n2 := belowCell HC3.out i2; have n3 := belowCell HC3.out i3; have na := belowCell HC3.out ia; have nb := belowCell HC3.out ib; have HSP3 := Kept.mk (HSP.out.below hb3); clear hb3)
                | (go_at_call 115; (with_reducible refine (hI.out _).mono ?_); rintro e v4 ⟨hb4, rfl⟩; have HC4 := Kept.mk (bstep HC3.out hb4); have p0 := belowCell HC4.out i0; have p1 := belowCell HC4.out i1; have p2 := belowCell HC4.out i2; have p3 := belowCell HC4.out i3; have pa := belowCell HC4.out ia; have pb := belowCell HC4.out ib; have HSP4 := Kept.mk (HSP3.out.below hb4); clear hb4)
                | (go_at_call 118; (refine (HSC.out _ vo HSP4.out).mono ?_); rintro e v5 ⟨hb5, vn, rfl, hs5⟩; have HC5 := Kept.mk (bstep HC4.out hb5); have q0 := belowCell HC5.out i0; have q1 := belowCell HC5.out i1; have q2 := belowCell HC5.out i2; have q3 := belowCell HC5.out i3; have qa := belowCell HC5.out ia; have qb := belowCell HC5.out ib; have HSN := Kept.mk hs5; clear hb5 hs5)))
            have HX9 := Kept.mk (hbx.out.below HC5.out)
            have HO9 := Kept.mk (hoo.out.below HC5.out)
            go_wp2
            go_roundw
            case rel => exact ⟨k + 1, by omega, by go_num, ⟨by rw [HE.out]; exact HSN.out⟩, HO9, HX9⟩
            case measure => simp [intOf] <;> omega
        · obtain rfl : k = n := by omega
          obtain ⟨L, hL⟩ : ∃ L, FFld.lgL D hk xs y i k = L := ⟨_, rfl⟩
          have HE : Kept (FFld.lgO D hk xs ys k (i + 1) = FFld.trm (FFld.sumL D (FFld.lgO D hk xs ys k i) (FFld.trm L))) := ⟨by simp only [FFld.lgO]; rw [HYE.out, hL]⟩
          have HLQ := Kept.mk (FFld.lgL_lt hk xs HYQ2.out i k)
          rw [hL] at hso HLQ HNL
          have HTR := Kept.mk (fun W (hW : Sl .i64 W (.slice al nl cl) (ints L)) => rtrim_any L al cl W (by rw [HNL.out]; exact hW) (by rw [HNL.out]; omega))
          rw [HNL.out] at HTR
          have hst := trm_sl (l := L) (ao := al) (cap := cl) (by rw [HNL.out]; exact hso.out)
          have htl := FFld.trm_len_le L
          rw [HNL.out] at htl
          have HOQ := Kept.mk (FFld.lgO_lt hk xs ys k i)
          have HSU := Kept.mk (fun W (hW : Below wr.heap.size wr W) => rpsum_any hD (.slice ao no co) (.slice al (FFld.trm L).length cl) (FFld.lgO D hk xs ys k i) (FFld.trm L) W (hoo.out.below hW) (hst.below hW) HOQ.out (FFld.trm_lt HLQ.out) (by rw [HNO.out]; omega) (by omega))
          clear hL hst htl
          go_wp2
          go_region_held3 (fun w' => w'.cell? ⟨w.heap.size, 0, none⟩ = some (.int .i64 D.q) ∧ w'.cell? ⟨w.heap.size, 1, none⟩ = some (.int .i64 D.p) ∧ w'.cell? ⟨w.heap.size, 2, none⟩ = some (.int .i64 D.k) ∧ w'.cell? ⟨w.heap.size, 3, none⟩ = some (.int .i64 D.m))
            (first | exact ⟨l0, l1, l2, l3⟩ | exact ⟨j0, j1, j2, j3⟩ | exact ⟨i0, i1, i2, i3⟩ | go_keep)
            ((first
              | (go_at_call 117; (refine (HTR.out _ (hso.out.below (by first | exact Below.refl _ _ | exact (Below.refl _ _).drew))).mono ?_); rintro e v1 ⟨rfl, rfl⟩; have j0 := i0; have j1 := i1; have j2 := i2; have j3 := i3)
              | (go_at_call 119; (refine (HSU.out _ (by repeat (first | (with_reducible exact Below.refl _ _) | (with_reducible refine Below.drew ?_)))).mono ?_); rintro e v2 ⟨hb2, vn, rfl, hs2⟩; have HC2 := Kept.mk (bstep (show Below wr.heap.size wr _ from (by first | exact Below.refl _ _ | exact (Below.refl _ _).drew)) hb2); have l0 := belowCell HC2.out i0; have l1 := belowCell HC2.out i1; have l2 := belowCell HC2.out i2; have l3 := belowCell HC2.out i3; have HSN := Kept.mk hs2; clear hb2 hs2)))
          have HX9 := Kept.mk (hbx.out.below HC2.out)
          go_wp2
          go_roundw
          case rel => exact ⟨i + 1, by omega, by go_num, ⟨by rw [HE.out]; exact HSN.out⟩, HX9⟩
          case measure => simp [intOf] <;> omega
    · obtain rfl : i = n := by omega
      go_wp2
      go_ret
      exact ⟨hbx0.out.1, _, rfl, hso0.out⟩
end Go.Proofs.Ytfhhnfpapgfnmaa
