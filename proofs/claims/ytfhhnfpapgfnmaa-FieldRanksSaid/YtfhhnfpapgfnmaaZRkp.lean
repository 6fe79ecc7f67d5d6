/-
  Texts of the proof, merged by program: Lin Rkp.
-/
import Derived.Test.YtfhhnfpapgfnmaaZSvb
import Derived.Test.YtfhhnfpapgfnmaaZRtp
import Derived.Test.YtfhhnfpapgfnmaaZ16
import Derived.Test.YtfhhnfpapgfnmaaZ22
import Derived.Test.YtfhhnfpapgfnmaaZSvc
set_option linter.unusedVariables false
set_option linter.unusedSimpArgs false
namespace Go.Proofs.Ytfhhnfpapgfnmaa
namespace FFld
namespace Dom
variable {α : Type} (F : Dom α)
/-- The sum of f 0, .., f (n - 1). -/
def sm (F : Dom α) (f : Nat → α) : Nat → α
  | 0 => F.zero
  | n + 1 => F.add (sm F f n) (f n)
theorem sm_congr {f g : Nat → α} : ∀ (n : Nat), (∀ i, i < n → f i = g i) → F.sm f n = F.sm g n
  | 0, _ => rfl
  | n + 1, h => by
    simp only [sm]
    rw [sm_congr n fun i hi => h i (by omega), h n (Nat.lt_succ_self n)]
theorem sm_add (f g : Nat → α) : ∀ (n : Nat), F.sm (fun i => F.add (f i) (g i)) n = F.add (F.sm f n) (F.sm g n)
  | 0 => (F.add_zero _).symm
  | n + 1 => by
    simp only [sm]
    rw [sm_add f g n, F.add4]
theorem sm_mul (a : α) (f : Nat → α) : ∀ (n : Nat), F.sm (fun i => F.mul a (f i)) n = F.mul a (F.sm f n)
  | 0 => (F.mul_zero a).symm
  | n + 1 => by
    simp only [sm]
    rw [sm_mul a f n, F.mul_add]
theorem sm_zero {f : Nat → α} : ∀ (n : Nat), (∀ i, i < n → f i = F.zero) → F.sm f n = F.zero
  | 0, _ => rfl
  | n + 1, h => by
    simp only [sm]
    rw [sm_zero n fun i hi => h i (by omega), h n (Nat.lt_succ_self n), F.add_zero]
theorem sm_comm (f : Nat → Nat → α) (m : Nat) : ∀ (n : Nat), F.sm (fun i => F.sm (fun j => f i j) m) n = F.sm (fun j => F.sm (fun i => f i j) n) m
  | 0 => by
    simp only [sm]
    exact (F.sm_zero m fun _ _ => rfl).symm
  | n + 1 => by
    simp only [sm]
    rw [sm_comm f m n, F.sm_add]
theorem sm_one {f : Nat → α} {j : Nat} : ∀ (n : Nat), j < n → (∀ i, i < n → i ≠ j → f i = F.zero) → F.sm f n = f j
  | 0, h, _ => by omega
  | n + 1, h, hz => by
    simp only [sm]
    by_cases e : j = n
    · subst e
      rw [F.sm_zero _ fun i hi => hz i (by omega) (by omega), F.zero_add]
    · rw [sm_one n (by omega) fun i hi => hz i (by omega), hz n (Nat.lt_succ_self n) (fun e2 => e e2.symm), F.add_zero]
/-- The numbers but one. -/
def skp (j i : Nat) : Nat := if i < j then i else i + 1
theorem sm_skip {f : Nat → α} {j : Nat} : ∀ (n : Nat), j < n + 1 → F.sm f (n + 1) = F.add (F.sm (fun i => f (skp j i)) n) (f j)
  | 0, h => by
    obtain rfl : j = 0 := by omega
    rfl
  | n + 1, h => by
    by_cases e : j = n + 1
    · subst e
      show F.add (F.sm f (n + 1)) (f (n + 1)) = _
      rw [F.sm_congr (n + 1) (g := fun i => f (skp (n + 1) i)) fun i hi => by unfold skp; rw [if_pos hi]]
    · have ih := sm_skip (f := f) (j := j) n (by omega)
      show F.add (F.sm f (n + 1)) (f (n + 1)) = F.add (F.add (F.sm (fun i => f (skp j i)) n) (f (skp j n))) (f j)
      have e2 : skp j n = n + 1 := by unfold skp; rw [if_neg (by omega)]
      rw [ih, e2, F.add_assoc, F.add_assoc, F.add_comm (f j)]
/-- More unknowns than equations: a solution that is not 0. -/
theorem depend : ∀ (r n : Nat) (c : Nat → Nat → α), r < n → ∃ x : Nat → α, (∃ i, i < n ∧ x i ≠ F.zero) ∧ ∀ k, k < r → F.sm (fun i => F.mul (x i) (c i k)) n = F.zero
  | 0, n, c, h => ⟨fun _ => F.one, ⟨0, h, F.one_ne⟩, fun k hk => by omega⟩
  | r + 1, n, c, h => by
    by_cases hz : ∀ i, i < n → c i r = F.zero
    · obtain ⟨x, hx, hs⟩ := depend r n c (by omega)
      refine ⟨x, hx, fun k hk => ?_⟩
      by_cases e : k = r
      · subst e
        exact F.sm_zero n fun i hi => by rw [hz i hi, F.mul_zero]
      · exact hs k (by omega)
    · have hex : ∃ j, j < n ∧ c j r ≠ F.zero := by
        apply Classical.byContradiction
        intro hc
        exact hz fun i hi => Classical.byContradiction fun h3 => hc ⟨i, hi, h3⟩
      obtain ⟨j, hj, ha⟩ := hex
      obtain ⟨m, rfl⟩ : ∃ m, n = m + 1 := ⟨n - 1, by omega⟩
      obtain ⟨x, ⟨i1, hi1, hx1⟩, hs⟩ := depend r m (fun i k => F.add (F.mul (c (skp j i) k) (c j r)) (F.neg (F.mul (c (skp j i) r) (c j k)))) (by omega)
      have hsk : ∀ i, skp j i ≠ j ∧ (if skp j i < j then skp j i else skp j i - 1) = i := fun i => by
        unfold skp
        split
        · rename_i h1
          exact ⟨by omega, by first | rfl | rw [if_pos h1]⟩
        · exact ⟨by omega, by first | omega | (rw [if_neg (by omega)]; omega)⟩
      refine ⟨fun i => if i = j then F.neg (F.sm (fun i => F.mul (x i) (c (skp j i) r)) m) else F.mul (x (if i < j then i else i - 1)) (c j r), ⟨skp j i1, ?_, ?_⟩, fun k hk => ?_⟩
      · unfold skp
        split <;> omega
      · simp only
        rw [if_neg (hsk i1).1, (hsk i1).2]
        exact F.mul_ne hx1 ha
      · rw [F.sm_skip m hj]
        simp only
        rw [if_pos trivial, F.sm_congr m (g := fun i => F.mul (F.mul (x i) (c j r)) (c (skp j i) k)) fun i _ => by rw [if_neg (hsk i).1, (hsk i).2]]
        have key : ∀ i, F.mul (x i) (F.add (F.mul (c (skp j i) k) (c j r)) (F.neg (F.mul (c (skp j i) r) (c j k)))) = F.add (F.mul (F.mul (x i) (c j r)) (c (skp j i) k)) (F.mul (F.neg (c j k)) (F.mul (x i) (c (skp j i) r))) := fun i => by
          rw [F.mul_add]
          congr 1
          · rw [F.mul_comm (c (skp j i) k), F.mul_assoc]
          · rw [F.mul_neg, F.neg_mul, F.mul_comm (c j k), F.mul_assoc]
        have tot : F.sm (fun i => F.mul (x i) (F.add (F.mul (c (skp j i) k) (c j r)) (F.neg (F.mul (c (skp j i) r) (c j k))))) m = F.zero := by
          by_cases e : k = r
          · subst e
            exact F.sm_zero m fun i hi => by rw [F.add_neg, F.mul_zero]
          · exact hs k (by omega)
        rw [F.sm_congr m fun i _ => key i, F.sm_add, F.sm_mul] at tot
        rw [F.neg_mul, F.mul_comm (F.sm _ m) (c j k), ← F.neg_mul]
        exact tot
/-- Rows with units in different columns, made of r rows, are at most r. -/
theorem indep_le {r n : Nat} (v b q : Nat → Nat → α) (p : Nat → Nat) (h : ∀ i j, i < n → j < n → v i (p j) = F.sm (fun k => F.mul (b i k) (q k (p j))) r)
    (h1 : ∀ i, i < n → v i (p i) = F.one) (h0 : ∀ i j, i < n → j < n → i ≠ j → v i (p j) = F.zero) : n ≤ r := by
  apply Classical.byContradiction
  intro hc
  obtain ⟨x, ⟨j, hj, hx⟩, hs⟩ := F.depend r n b (by omega)
  apply hx
  have e1 : F.sm (fun i => F.mul (x i) (v i (p j))) n = x j := by
    rw [F.sm_one (j := j) n hj fun i hi hne => by rw [h0 i j hi hj hne, F.mul_zero], h1 j hj, F.mul_one]
  have e2 : F.sm (fun i => F.mul (x i) (v i (p j))) n = F.sm (fun i => F.sm (fun k => F.mul (q k (p j)) (F.mul (x i) (b i k))) r) n := F.sm_congr n fun i hi => by
    rw [h i j hi hj, ← F.sm_mul]
    exact F.sm_congr r fun k _ => by rw [← F.mul_assoc, F.mul_comm (F.mul (x i) (b i k))]
  rw [← e1, e2, F.sm_comm]
  exact F.sm_zero r fun k hk => by rw [F.sm_mul, hs k hk, F.mul_zero]
/-- The rows that sums of multiples of the rows in P are. -/
inductive Spn (F : Dom α) (W : Nat) (P : (Nat → α) → Prop) : (Nat → α) → Prop where
  | mem (v : Nat → α) : P v → Spn F W P v
  | zero (v : Nat → α) : (∀ c, c < W → v c = F.zero) → Spn F W P v
  | add (u v w : Nat → α) : Spn F W P u → Spn F W P v → (∀ c, c < W → w c = F.add (u c) (v c)) → Spn F W P w
  | mul (a : α) (u w : Nat → α) : Spn F W P u → (∀ c, c < W → w c = F.mul a (u c)) → Spn F W P w
theorem Spn.trans {F : Dom α} {W : Nat} {P P' : (Nat → α) → Prop} (h : ∀ v, P v → Spn F W P' v) {v : Nat → α} (hv : Spn F W P v) : Spn F W P' v := by
  induction hv with
  | mem v hp => exact h v hp
  | zero v hz => exact .zero v hz
  | add u v w _ _ e iu iv => exact .add u v w iu iv e
  | mul a u w _ e iu => exact .mul a u w iu e
theorem Spn.coef {F : Dom α} {W r : Nat} {P : (Nat → α) → Prop} {q : Nat → Nat → α} (h : ∀ v, P v → ∃ a : Nat → α, ∀ c, c < W → v c = F.sm (fun k => F.mul (a k) (q k c)) r) {v : Nat → α} (hv : Spn F W P v) :
    ∃ a : Nat → α, ∀ c, c < W → v c = F.sm (fun k => F.mul (a k) (q k c)) r := by
  induction hv with
  | mem v hp => exact h v hp
  | zero v hz => exact ⟨fun _ => F.zero, fun c hc => by rw [hz c hc, F.sm_zero r fun k _ => F.zero_mul _]⟩
  | add u v w _ _ e iu iv =>
    obtain ⟨a, ha⟩ := iu
    obtain ⟨b, hb⟩ := iv
    refine ⟨fun k => F.add (a k) (b k), fun c hc => ?_⟩
    rw [e c hc, ha c hc, hb c hc, ← F.sm_add]
    exact F.sm_congr r fun k _ => (F.add_mul _ _ _).symm
  | mul s u w _ e iu =>
    obtain ⟨a, ha⟩ := iu
    refine ⟨fun k => F.mul s (a k), fun c hc => ?_⟩
    rw [e c hc, ha c hc, ← F.sm_mul]
    exact F.sm_congr r fun k _ => (F.mul_assoc _ _ _).symm
end Dom
end FFld
end Go.Proofs.Ytfhhnfpapgfnmaa

set_option linter.unusedVariables false
set_option linter.unusedSimpArgs false
namespace Go.Proofs.Ytfhhnfpapgfnmaa
namespace FFld
/-- A number as an element. -/
def toE {D : FD} (h : PK D.p D.k D.m) (a : Nat) : El (D.p ^ D.k) := if ha : a < D.p ^ D.k then ⟨a, ha⟩ else ⟨0, Nat.pow_pos h.p0⟩
theorem toE_val {D : FD} (h : PK D.p D.k D.m) {a : Nat} (ha : a < D.p ^ D.k) : (toE h a).1 = a := by
  unfold toE
  rw [dif_pos ha]
section
variable {D : FD} (hD : D.Ok)
theorem toE_add {a b : Nat} (ha : a < D.p ^ D.k) (hb : b < D.p ^ D.k) : toE hD.pre.pk (padd D.p D.k a b) = (FD.dom hD.nzd).add (toE hD.pre.pk a) (toE hD.pre.pk b) := by
  apply Subtype.ext
  rw [toE_val _ (padd_lt hD.pre.pk _ _)]
  show _ = padd D.p D.k (toE hD.pre.pk a).1 (toE hD.pre.pk b).1
  rw [toE_val _ ha, toE_val _ hb]
theorem toE_mul {a b : Nat} (ha : a < D.p ^ D.k) (hb : b < D.p ^ D.k) : toE hD.pre.pk (pmul D.p D.k D.m a D.k b) = (FD.dom hD.nzd).mul (toE hD.pre.pk a) (toE hD.pre.pk b) := by
  apply Subtype.ext
  rw [toE_val _ (pmul_lt hD.pre.pk _ _ _)]
  show _ = pmul D.p D.k D.m (toE hD.pre.pk a).1 D.k (toE hD.pre.pk b).1
  rw [toE_val _ ha, toE_val _ hb]
theorem toE_neg {a : Nat} (ha : a < D.p ^ D.k) : toE hD.pre.pk (pscl D.p D.k (D.p - 1) a) = (FD.dom hD.nzd).neg (toE hD.pre.pk a) := by
  apply Subtype.ext
  rw [toE_val _ (pscl_lt hD.pre.pk _ _)]
  show _ = pscl D.p D.k (D.p - 1) (toE hD.pre.pk a).1
  rw [toE_val _ ha]
theorem toE_zero : toE hD.pre.pk 0 = (FD.dom hD.nzd).zero := by
  apply Subtype.ext
  rw [toE_val _ (Nat.pow_pos hD.pre.pk.p0)]
  rfl
theorem toE_one : toE hD.pre.pk 1 = (FD.dom hD.nzd).one := by
  apply Subtype.ext
  rw [toE_val _ hD.pre.pk.one_lt]
  rfl
/-- A row of the matrix. -/
def RS {D : FD} (hD : D.Ok) (W N : Nat) (A : List (List Nat)) (v : Nat → El (D.p ^ D.k)) : Prop := ∃ i, i < N ∧ ∀ c, c < W → v c = toE hD.pre.pk (cellAt A i c)
/-- Every row of A is a sum of multiples of the rows of B. -/
def Into {D : FD} (hD : D.Ok) (W N : Nat) (A B : List (List Nat)) : Prop := ∀ v, RS hD W N A v → Dom.Spn (FD.dom hD.nzd) W (RS hD W N B) v
variable {hD} {W N : Nat} {A B C : List (List Nat)}
theorem Into.refl : Into hD W N A A := fun v hv => .mem v hv
theorem Into.trans (h1 : Into hD W N A B) (h2 : Into hD W N B C) : Into hD W N A C := fun v hv => (h1 v hv).trans h2
theorem Dom.Spn.ext {α : Type} {F : Dom α} {W : Nat} {P : (Nat → α) → Prop} {u w : Nat → α} (h : Dom.Spn F W P u) (e : ∀ c, c < W → w c = u c) : Dom.Spn F W P w := .mul F.one u w h fun c hc => by rw [F.one_mul, e c hc]
theorem Into.of (h : ∀ i, i < N → Dom.Spn (FD.dom hD.nzd) W (RS hD W N B) (fun c => toE hD.pre.pk (cellAt A i c))) : Into hD W N A B := fun v hv => by
  obtain ⟨i, hi, e⟩ := hv
  exact (h i hi).ext e
theorem row_in {i : Nat} (hi : i < N) : Dom.Spn (FD.dom hD.nzd) W (RS hD W N A) (fun c => toE hD.pre.pk (cellAt A i c)) := .mem _ ⟨i, hi, fun _ _ => rfl⟩
theorem swapN_swapN (i j k : Nat) : swapN i j (swapN i j k) = k := by
  unfold swapN
  by_cases h1 : k = j
  · subst h1
    rw [if_pos rfl]
    by_cases h2 : i = k
    · rw [if_pos h2]; exact h2
    · rw [if_neg h2, if_pos rfl]
  · rw [if_neg h1]
    by_cases h2 : k = i
    · subst h2
      rw [if_pos rfl, if_pos rfl]
    · rw [if_neg h2, if_neg h1, if_neg h2]
theorem into_exch {i j : Nat} (hl : A.length = N) (hi : i < N) (hj : j < N) : Into hD W N (exch [] A i j) A ∧ Into hD W N A (exch [] A i j) :=
  ⟨.of fun k hk => .mem _ ⟨swapN i j k, swapN_lt hi hj hk, fun c _ => by dsimp only; rw [cell_exch (by omega) (by omega)]⟩,
   .of fun k hk => .mem _ ⟨swapN i j k, swapN_lt hi hj hk, fun c _ => by dsimp only; rw [cell_exch (by omega) (by omega), swapN_swapN]⟩⟩
theorem into_mul (hl : A.length = N) (wa : Wfm D W A) {i t x : Nat} (hi : i < N) (ht : t < D.p ^ D.k) (hx : x < D.p ^ D.k) (h1 : pmul D.p D.k D.m x D.k t = 1) : Into hD W N (mulAt D A i t) A ∧ Into hD W N A (mulAt D A i t) := by
  have hk := hD.pre.pk
  have e1 : (FD.dom hD.nzd).mul (toE hk x) (toE hk t) = (FD.dom hD.nzd).one := by rw [← toE_mul hD hx ht, h1, toE_one hD]
  refine ⟨.of fun k hkn => ?_, .of fun k hkn => ?_⟩
  · by_cases e : k = i
    · subst e
      refine .mul (toE hk t) _ _ (row_in hkn) fun c hc => ?_
      rw [cell_mul wa (by omega) t k hc, if_pos rfl, toE_mul hD (wa.cell hk _ _) ht, Dom.mul_comm]
    · exact .mem _ ⟨k, hkn, fun c hc => by dsimp only; rw [cell_mul wa (by omega) t k hc, if_neg e]⟩
  · by_cases e : k = i
    · subst e
      refine .mul (toE hk x) _ _ (row_in (A := mulAt D A k t) hkn) fun c hc => ?_
      rw [cell_mul wa (by omega) t k hc, if_pos rfl, toE_mul hD (wa.cell hk _ _) ht, Dom.mul_comm _ (toE hk (cellAt A k c)), ← Dom.mul_assoc, e1, Dom.one_mul]
    · exact .mem _ ⟨k, hkn, fun c hc => by dsimp only; rw [cell_mul wa (by omega) t k hc, if_neg e]⟩
theorem into_subs {B : List (List Nat)} {top c0 : Nat} (wa : Wfm D W A) (ht : top < N)
    (hc : ∀ k c, k < N → c < W → cellAt B k c = if k < N ∧ k ≠ top then padd D.p D.k (cellAt A k c) (pmul D.p D.k D.m (cellAt A top c) D.k (negF D (cellAt A k c0))) else cellAt A k c) : Into hD W N B A ∧ Into hD W N A B := by
  have hk := hD.pre.pk
  have hw := fun k c => wa.cell hk k c
  have hn : ∀ a, negF D a < D.p ^ D.k := fun a => pscl_lt hk _ _
  refine ⟨.of fun k hkn => ?_, .of fun k hkn => ?_⟩
  · by_cases e : k = top
    · exact .mem _ ⟨k, hkn, fun c hcw => by dsimp only; rw [hc k c hkn hcw, if_neg (fun h => h.2 e)]⟩
    · refine .add _ _ _ (row_in hkn) (.mul (toE hk (negF D (cellAt A k c0))) _ (fun c => (FD.dom hD.nzd).mul (toE hk (negF D (cellAt A k c0))) (toE hk (cellAt A top c))) (row_in ht) fun c _ => rfl) fun c hcw => ?_
      rw [hc k c hkn hcw, if_pos ⟨hkn, e⟩, toE_add hD (hw _ _) (pmul_lt hk _ _ _), toE_mul hD (hw _ _) (hn _), Dom.mul_comm]
  · by_cases e : k = top
    · exact .mem _ ⟨k, hkn, fun c hcw => by dsimp only; rw [hc k c hkn hcw, if_neg (fun h => h.2 e)]⟩
    · refine .add _ _ _ (row_in (A := B) hkn) (.mul (toE hk (cellAt A k c0)) _ (fun c => (FD.dom hD.nzd).mul (toE hk (cellAt A k c0)) (toE hk (cellAt B top c))) (row_in (A := B) ht) fun c _ => rfl) fun c hcw => ?_
      have en : toE hk (negF D (cellAt A k c0)) = (FD.dom hD.nzd).neg (toE hk (cellAt A k c0)) := toE_neg hD (hw _ _)
      rw [hc k c hkn hcw, if_pos ⟨hkn, e⟩, hc top c ht hcw, if_neg (fun h => h.2 rfl), toE_add hD (hw _ _) (pmul_lt hk _ _ _), toE_mul hD (hw _ _) (hn _), en, Dom.mul_neg, Dom.mul_comm _ (toE hk (cellAt A top c)), Dom.add_assoc, Dom.add_comm _ (Dom.neg _ _), Dom.add_neg, Dom.add_zero]
end
/-- What a step does. -/
theorem step_cases {D : FD} (hD : D.Ok) {W N n : Nat} {s : ESt} {c : Nat} (ho : EOk D W n N s) (hc : c < W) :
    (stepF D hD.pre.pk c s = s ∧ ∀ k, s.cols.length ≤ k → k < N → cellAt s.A k c = 0) ∨
    (s.cols.length < N ∧ ∃ row inv, s.cols.length ≤ row ∧ row < N ∧ inv < D.p ^ D.k ∧ pmul D.p D.k D.m (cellAt (exch [] s.A s.cols.length row) s.cols.length c) D.k inv = 1 ∧ (stepF D hD.pre.pk c s).cols = s.cols ++ [c] ∧
      ∀ k c', k < N → c' < W → cellAt (stepF D hD.pre.pk c s).A k c' = if k < N ∧ k ≠ s.cols.length then padd D.p D.k (cellAt (mulAt D (exch [] s.A s.cols.length row) s.cols.length inv) k c') (pmul D.p D.k D.m (cellAt (mulAt D (exch [] s.A s.cols.length row) s.cols.length inv) s.cols.length c') D.k (negF D (cellAt (mulAt D (exch [] s.A s.cols.length row) s.cols.length inv) k c))) else cellAt (mulAt D (exch [] s.A s.cols.length row) s.cols.length inv) k c') := by
  have hk := hD.pre.pk
  have hp := piv_le s.A c (s.A.length - s.cols.length) s.cols.length
  have hla := ho.la
  have hlr := ho.lr
  have hcl := ho.cl
  have hfd := piv_found (A := s.A) (c := c) (s.A.length - s.cols.length) s.cols.length
  have hzr := piv_zero (A := s.A) (c := c) (s.A.length - s.cols.length) s.cols.length
  unfold stepF
  simp only
  split
  · rename_i he
    exact .inl ⟨rfl, fun k h1 h2 => hzr (by omega) k h1 (by omega)⟩
  · rename_i hne
    have htop : s.cols.length < N := by omega
    have hrow : piv s.A c (s.A.length - s.cols.length) s.cols.length < N := by omega
    have hge := hp.1
    have hx0 := hfd (by omega)
    clear hfd hzr
    generalize piv s.A c (s.A.length - s.cols.length) s.cols.length = row at *
    have la1 : (exch [] s.A s.cols.length row).length = N := by rw [exch_len]; exact hla
    have w1 := ho.wa.exch (i := s.cols.length) (j := row) (by omega) (by omega)
    have wr1 := ho.wr.exch (i := s.cols.length) (j := row) (by omega) (by omega)
    have hxe : cellAt (exch [] s.A s.cols.length row) s.cols.length c = cellAt s.A row c := by
      rw [cell_exch (by omega) (by omega)]
      congr 1
      unfold swapN
      by_cases e : s.cols.length = row
      · rw [if_pos e]; exact e
      · rw [if_neg e, if_pos rfl]
    rw [← hxe] at hx0
    have hxq := w1.cell hk s.cols.length c
    have hix := hD.div_mul (a := 1) (b := cellAt (exch [] s.A s.cols.length row) s.cols.length c) hk.one_lt hxq hx0
    rw [pmul_comm hk _ _ hk.one_lt hxq, pmul_by_one hk _ hxq] at hix
    have hiq := ppow_lt hk (cellAt (exch [] s.A s.cols.length row) s.cols.length c) (D.q - 2)
    generalize ppow hk (cellAt (exch [] s.A s.cols.length row) s.cols.length c) (D.q - 2) = inv at *
    have la2 : (mulAt D (exch [] s.A s.cols.length row) s.cols.length inv).length = N := by rw [mulAt_len]; exact la1
    have w2 := w1.mul hk s.cols.length inv
    have wr2 := wr1.mul hk s.cols.length inv
    rw [hla]
    exact .inr ⟨htop, row, inv, hge, hrow, hiq, hix, rfl, fun k c' h1 h2 => cell_subs hk la2 w2 wr2 hc htop N (Nat.le_refl _) k c' h1 h2⟩
theorem into_step {D : FD} (hD : D.Ok) {W N n : Nat} {s : ESt} {c : Nat} (ho : EOk D W n N s) (hc : c < W) : Into hD W N (stepF D hD.pre.pk c s).A s.A ∧ Into hD W N s.A (stepF D hD.pre.pk c s).A := by
  have hk := hD.pre.pk
  have hla := ho.la
  rcases step_cases hD ho hc with ⟨e, _⟩ | ⟨htop, row, inv, h1, h2, h3, h4, _, h5⟩
  · rw [e]
    exact ⟨.refl, .refl⟩
  · have w1 := ho.wa.exch (i := s.cols.length) (j := row) (by omega) (by omega)
    have la1 : (exch [] s.A s.cols.length row).length = N := by rw [exch_len]; exact hla
    have i1 := into_exch (hD := hD) (W := W) hla htop h2
    have i2 := into_mul (hD := hD) la1 w1 htop h3 (w1.cell hk _ _) h4
    have i3 := into_subs (hD := hD) (w1.mul hk s.cols.length inv) htop h5
    exact ⟨i3.1.trans (i2.1.trans i1.1), i1.2.trans (i2.2.trans i3.2)⟩
theorem into_elim {D : FD} (hD : D.Ok) {W N n : Nat} {s : ESt} (ho : EOk D W n N s) : ∀ c, c ≤ W → Into hD W N (elimF D hD.pre.pk s c).A s.A ∧ Into hD W N s.A (elimF D hD.pre.pk s c).A
  | 0, _ => ⟨.refl, .refl⟩
  | c + 1, hc => by
    have h1 := into_elim hD ho c (by omega)
    have h2 := into_step hD (ho.elim hD.pre.pk c) (c := c) (by omega)
    exact ⟨h2.1.trans h1.1, h1.2.trans h2.2⟩
/-- Nothing stands above a first element either, and the first elements rise. -/
structure Rcf (N : Nat) (s : ESt) : Prop where
  up : ∀ i, i < s.cols.length → ∀ k, k < N → k ≠ i → cellAt s.A k (s.cols[i]?.getD 0) = 0
  mono : ∀ i j, i < j → j < s.cols.length → s.cols[i]?.getD 0 < s.cols[j]?.getD 0
theorem Rcf.step {D : FD} (hD : D.Ok) {W N n : Nat} {s : ESt} {c : Nat} (h : Ecf N c s) (hr : Rcf N s) (ho : EOk D W n N s) (hc : c < W) : Rcf N (stepF D hD.pre.pk c s) := by
  have hk := hD.pre.pk
  have hla := ho.la
  rcases step_cases hD ho hc with ⟨e, _⟩ | ⟨htop, row, inv, h1, h2, h3, h4, ec, h5⟩
  · rw [e]
    exact hr
  · have w1 := ho.wa.exch (i := s.cols.length) (j := row) (by omega) (by omega)
    have la1 : (exch [] s.A s.cols.length row).length = N := by rw [exch_len]; exact hla
    have c1 : ∀ k c', cellAt (exch [] s.A s.cols.length row) k c' = cellAt s.A (swapN s.cols.length row k) c' := fun k c' => cell_exch (by omega) (by omega) k c'
    have hz1 : ∀ k, s.cols.length ≤ k → k < N → ∀ c', c' < c → cellAt (exch [] s.A s.cols.length row) k c' = 0 := fun k q1 q2 c' hc' => by
      rw [c1]
      refine h.zero _ ?_ (swapN_lt htop h2 q2) c' hc'
      unfold swapN
      split
      · omega
      · split <;> omega
    have hl1 : ∀ k, k < s.cols.length → ∀ c', cellAt (exch [] s.A s.cols.length row) k c' = cellAt s.A k c' := fun k q1 c' => by
      rw [c1]
      congr 1
      unfold swapN
      rw [if_neg (by omega), if_neg (by omega)]
    generalize exch [] s.A s.cols.length row = A1 at *
    have c2 := fun k c' (hc' : c' < W) => cell_mul w1 (i := s.cols.length) (by omega) inv k hc'
    have w2 := w1.mul hk s.cols.length inv
    have ht2 : cellAt (mulAt D A1 s.cols.length inv) s.cols.length c = 1 := by rw [c2 s.cols.length c hc, if_pos rfl]; exact h4
    have hz2 : ∀ k, s.cols.length ≤ k → k < N → ∀ c', c' < c → cellAt (mulAt D A1 s.cols.length inv) k c' = 0 := fun k q1 q2 c' hc' => by
      rw [c2 k c' (by omega)]
      split
      · rw [hz1 s.cols.length (Nat.le_refl _) htop c' hc', pmul_comm hk _ _ (Nat.pow_pos hk.p0) h3, pmul_zero_right hk]
      · exact hz1 k q1 q2 c' hc'
    have hl2 : ∀ k, k < s.cols.length → ∀ c', c' < W → cellAt (mulAt D A1 s.cols.length inv) k c' = cellAt s.A k c' := fun k q1 c' hc' => by
      rw [c2 k c' hc', if_neg (by omega)]
      exact hl1 k q1 c'
    generalize mulAt D A1 s.cols.length inv = A2 at *
    have hzz : ∀ t, t < D.p ^ D.k → pmul D.p D.k D.m 0 D.k t = 0 := fun t ht => by rw [pmul_comm hk _ _ (Nat.pow_pos hk.p0) ht, pmul_zero_right hk]
    have old : ∀ k, k < N → ∀ c', c' < c → cellAt (stepF D hD.pre.pk c s).A k c' = cellAt A2 k c' := fun k q1 c' hc' => by
      rw [h5 k c' q1 (by omega)]
      split
      · rw [hz2 s.cols.length (Nat.le_refl _) htop c' hc', hzz (negF D (cellAt A2 k c)) (pscl_lt hk _ _), padd_zero hk _ (w2.cell hk k c')]
      · rfl
    have ei : ∀ i, i < s.cols.length → (s.cols ++ [c])[i]?.getD 0 = s.cols[i]?.getD 0 := fun i hi => by rw [List.getElem?_append_left hi]
    have et : (s.cols ++ [c])[s.cols.length]?.getD 0 = c := by simp
    refine ⟨fun i hi k hkn hne => ?_, fun i j hij hj => ?_⟩
    · rw [ec, List.length_append, List.length_singleton] at hi
      rw [ec]
      by_cases e : i = s.cols.length
      · subst e
        rw [et, h5 k c hkn hc, if_pos ⟨hkn, hne⟩, ht2, pmul_comm hk 1 (negF D (cellAt A2 k c)) hk.one_lt (pscl_lt hk _ _), pmul_by_one hk (negF D (cellAt A2 k c)) (pscl_lt hk _ _)]
        exact padd_neg hk _
      · have hi' : i < s.cols.length := by omega
        obtain ⟨a1, a2, a3⟩ := h.low i hi'
        rw [ei i hi', old k hkn _ a1]
        by_cases e3 : k < s.cols.length
        · rw [hl2 k e3 _ (by omega)]
          exact hr.up i hi' k hkn hne
        · exact hz2 k (by omega) hkn _ a1
    · rw [ec, List.length_append, List.length_singleton] at hj
      rw [ec, ei i (by omega)]
      by_cases e : j = s.cols.length
      · subst e
        rw [et]
        exact (h.low i (by omega)).1
      · rw [ei j (by omega)]
        exact hr.mono i j hij (by omega)
theorem Rcf.elim {D : FD} (hD : D.Ok) {W N n : Nat} {s : ESt} (h0 : s.cols = []) (ho : EOk D W n N s) : ∀ c, c ≤ W → Rcf N (elimF D hD.pre.pk s c)
  | 0, _ => ⟨fun i hi => by simp only [elimF] at hi; rw [h0] at hi; simp at hi, fun i j _ hj => by simp only [elimF] at hj; rw [h0] at hj; simp at hj⟩
  | c + 1, hc => (Rcf.elim hD h0 ho c (by omega)).step hD (Ecf.elim hD h0 ho c (by omega)) (ho.elim hD.pre.pk c) (by omega)
/-- The rank of a matrix is at least that of the one with rows and columns exchanged. -/
theorem rank_le {D : FD} (hD : D.Ok) {W N n m : Nat} {A B R S : List (List Nat)} (ha : EOk D W n N ⟨A, R, []⟩) (hb : EOk D N m W ⟨B, S, []⟩) (ht : ∀ i c, i < N → c < W → cellAt B c i = cellAt A i c) :
    (elimF D hD.pre.pk ⟨B, S, []⟩ N).cols.length ≤ (elimF D hD.pre.pk ⟨A, R, []⟩ W).cols.length := by
  have hk := hD.pre.pk
  have ia := (into_elim hD ha W (Nat.le_refl _)).2
  have ib := (into_elim hD hb N (Nat.le_refl _)).1
  have fa := Ecf.elim hD rfl ha W (Nat.le_refl _)
  have fb := Ecf.elim hD rfl hb N (Nat.le_refl _)
  have rb := Rcf.elim hD rfl hb N (Nat.le_refl _)
  have ob := hb.elim hk N
  generalize elimF D hk ⟨A, R, []⟩ W = s at *
  generalize elimF D hk ⟨B, S, []⟩ N = t at *
  have hrow : ∀ i, ∃ a : Nat → El (D.p ^ D.k), i < N → ∀ c, c < W → toE hk (cellAt A i c) = (FD.dom hD.nzd).sm (fun k => (FD.dom hD.nzd).mul (a k) (toE hk (cellAt s.A k c))) s.cols.length := fun i => by
    by_cases hi : i < N
    · have h1 := ia (fun c => toE hk (cellAt A i c)) ⟨i, hi, fun _ _ => rfl⟩
      obtain ⟨a, ha⟩ := Dom.Spn.coef (q := fun k c => toE hk (cellAt s.A k c)) (r := s.cols.length) (fun v hv => by
        obtain ⟨k, hkN, e⟩ := hv
        by_cases hkr : k < s.cols.length
        · refine ⟨fun j => if j = k then (FD.dom hD.nzd).one else (FD.dom hD.nzd).zero, fun c hc => ?_⟩
          have h := Dom.sm_one (FD.dom hD.nzd) (f := fun i => (FD.dom hD.nzd).mul (if i = k then (FD.dom hD.nzd).one else (FD.dom hD.nzd).zero) (toE hk (cellAt s.A i c))) (j := k) s.cols.length hkr (fun i _ hne => by rw [if_neg hne, Dom.zero_mul])
          dsimp only at h ⊢
          rw [e c hc, h, if_pos rfl, Dom.one_mul]
        · refine ⟨fun _ => (FD.dom hD.nzd).zero, fun c hc => ?_⟩
          rw [Dom.sm_zero _ _ fun i _ => Dom.zero_mul _ _, e c hc, fa.zero k (by omega) hkN c hc, toE_zero hD]) h1
      exact ⟨a, fun _ => ha⟩
    · exact ⟨fun _ => (FD.dom hD.nzd).zero, fun h => absurd h hi⟩
  obtain ⟨a, hA⟩ := Classical.axiomOfChoice hrow
  have hcol : ∀ j, ∃ b : Nat → El (D.p ^ D.k), j < W → ∀ i, i < N → toE hk (cellAt t.A j i) = (FD.dom hD.nzd).sm (fun k => (FD.dom hD.nzd).mul (b k) (a i k)) s.cols.length := fun j => by
    by_cases hj : j < W
    · have h1 := ib (fun i => toE hk (cellAt t.A j i)) ⟨j, hj, fun _ _ => rfl⟩
      obtain ⟨b, hb⟩ := Dom.Spn.coef (q := fun k i => a i k) (r := s.cols.length) (fun v hv => by
        obtain ⟨c, hcW, e⟩ := hv
        refine ⟨fun k => toE hk (cellAt s.A k c), fun i hi => ?_⟩
        rw [e i hi, ht i c hi hcW, hA i hi c hcW]
        exact Dom.sm_congr _ _ fun k _ => Dom.mul_comm _ _ _) h1
      exact ⟨b, fun _ => hb⟩
    · exact ⟨fun _ => (FD.dom hD.nzd).zero, fun h => absurd h hj⟩
  obtain ⟨b, hB⟩ := Classical.axiomOfChoice hcol
  have hcl := ob.cl
  have hpl : ∀ j, j < t.cols.length → t.cols[j]?.getD 0 < N := fun j hj => (fb.low j hj).1
  refine Dom.indep_le (FD.dom hD.nzd) (fun j i => toE hk (cellAt t.A j i)) b (fun k i => a i k) (fun j => t.cols[j]?.getD 0) (fun i j hi hj => hB i (by omega) _ (hpl j hj)) (fun i hi => ?_) (fun i j hi hj hne => ?_)
  · show toE hk (cellAt t.A i (t.cols[i]?.getD 0)) = _
    rw [(fb.low i hi).2.1, toE_one hD]
  · show toE hk (cellAt t.A i (t.cols[j]?.getD 0)) = _
    rw [rb.up j hj i (by omega) hne, toE_zero hD]
/-- A matrix in echelon form stays as it is. -/
theorem exch_self {α : Type} (d : α) {A : List α} {i : Nat} (hi : i < A.length) : exch d A i i = A := by
  apply List.ext_getElem?
  intro k
  rw [exch_get d A hi hi]
  congr 1
  split
  · rename_i e; exact e.symm
  · first | rfl | (split <;> first | rfl | (rename_i e; exact e.symm))
theorem rowMul_one {D : FD} (hk : PK D.p D.k D.m) {l : List Nat} (h : ∀ a ∈ l, a < D.p ^ D.k) : rowMul D l 1 = l := by
  unfold rowMul
  conv => rhs; rw [← List.map_id l]
  exact List.map_congr_left fun a ha => pmul_by_one hk a (h a ha)
theorem elim_again {D : FD} (hD : D.Ok) {W r : Nat} {E R : List (List Nat)} {cs : List Nat} (hw : Wfm D W E) (hl : E.length = r) (hR : R.length = r) (hcs : cs.length = r)
    (low : ∀ i, i < r → cs[i]?.getD 0 < W ∧ cellAt E i (cs[i]?.getD 0) = 1 ∧ ∀ c', c' < cs[i]?.getD 0 → cellAt E i c' = 0) (up : ∀ i, i < r → ∀ k, k < r → k ≠ i → cellAt E k (cs[i]?.getD 0) = 0)
    (mono : ∀ i j, i < j → j < r → cs[i]?.getD 0 < cs[j]?.getD 0) : ∀ c, c ≤ W → ∃ t R', t ≤ r ∧ elimF D hD.pre.pk ⟨E, R, []⟩ c = ⟨E, R', cs.take t⟩ ∧ (∀ i, i < t → cs[i]?.getD 0 < c) ∧ ∀ i, t ≤ i → i < r → c ≤ cs[i]?.getD 0
  | 0, _ => ⟨0, R, Nat.zero_le _, rfl, fun i h => by omega, fun i _ _ => Nat.zero_le _⟩
  | c + 1, hc => by
    have hk := hD.pre.pk
    obtain ⟨t, R', htr, e, h1, h2⟩ := elim_again hD hw hl hR hcs low up mono c (by omega)
    have htl : (cs.take t).length = t := by rw [List.length_take, hcs]; omega
    by_cases hf : t < r ∧ cs[t]?.getD 0 = c
    · obtain ⟨hlt, hct⟩ := hf
      have hct1 : cellAt E t c = 1 := by rw [← hct]; exact (low t hlt).2.1
      have hpiv : piv E c (E.length - (cs.take t).length) (cs.take t).length = t := by
        rw [htl, hl]
        obtain ⟨f, hf⟩ : ∃ f, r - t = f + 1 := ⟨r - t - 1, by omega⟩
        rw [hf]
        unfold piv
        rw [if_neg (by omega)]
      refine ⟨t + 1, (subsF D t c (E, mulAt D (exch [] R' t t) t 1) r).2, hlt, ?_, fun i hi => ?_, fun i hi1 hi2 => ?_⟩
      · show stepF D hk c (elimF D hk ⟨E, R, []⟩ c) = _
        rw [e, step_eq D hk c (row := t) (x := 1) hpiv (by omega) (by rw [htl]; omega) hct1, htl, ppow_1, exch_self _ (by omega), hl]
        have em : mulAt D E t 1 = E := by
          unfold mulAt
          rw [rowMul_one hk (hw.row (by omega)).2]
          exact rowAt_set_self (by omega)
        rw [em]
        have es : ∀ i, i ≤ r → (subsF D t c (E, mulAt D (exch [] R' t t) t 1) i).1 = E := fun i => by
          induction i with
          | zero => intro _; rfl
          | succ i ih =>
            intro hi
            simp only [subsF]
            split
            · exact ih (by omega)
            · rename_i hne
              simp only
              have hz := up t hlt i (by omega) hne
              rw [hct] at hz
              rw [ih (by omega), hz]
              exact subAt_none hk hw (by omega) (by omega)
        rw [es r (Nat.le_refl _)]
        have hg : cs[t]? = some c := by
          rw [List.getElem?_eq_getElem (by omega)] at hct ⊢
          simpa using hct
        have et : cs.take t ++ [c] = cs.take (t + 1) := by
          rw [List.take_add_one, hg]
          rfl
        rw [et]
      · by_cases e2 : i = t
        · rw [e2]; omega
        · have := h1 i (by omega)
          omega
      · have := mono t i (by omega) hi2
        omega
    · have hlt2 : ∀ i, t ≤ i → i < r → c < cs[i]?.getD 0 := fun i hi1 hi2 => by
        have a1 := h2 i hi1 hi2
        by_cases e2 : i = t
        · subst e2
          have : cs[i]?.getD 0 ≠ c := fun e3 => hf ⟨hi2, e3⟩
          omega
        · have a2 := mono t i (by omega) hi2
          have a3 := h2 t (Nat.le_refl _) (by omega)
          omega
      have hpiv : piv E c (E.length - (cs.take t).length) (cs.take t).length = E.length := by
        rw [htl, hl]
        rw [piv_none (A := E) (c := c) (r - t) t fun k q1 q2 => (low k (by omega)).2.2 c (hlt2 k q1 (by omega))]
        omega
      refine ⟨t, R', htr, ?_, fun i hi => ?_, fun i hi1 hi2 => ?_⟩
      · show stepF D hk c (elimF D hk ⟨E, R, []⟩ c) = _
        rw [e, step_skip D hk c hpiv]
      · have := h1 i hi
        omega
      · have := hlt2 i hi1 hi2
        omega
end FFld
end Go.Proofs.Ytfhhnfpapgfnmaa
