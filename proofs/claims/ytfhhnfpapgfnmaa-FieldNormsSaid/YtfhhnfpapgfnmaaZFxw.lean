/-
  Texts of the proof, merged by program: Psr Pdv Pfr Pder Pchr Pbe Slk Pel Smu Irp Rmp Dri Rkp Nul Fix Fxr Fxa Fir Fxw.
-/
import Derived.Test.YtfhhnfpapgfnmaaZRth
import Derived.Test.YtfhhnfpapgfnmaaZ7
import Derived.Test.YtfhhnfpapgfnmaaZ19
import Derived.Test.YtfhhnfpapgfnmaaZRcm
import Derived.Test.YtfhhnfpapgfnmaaZPfn
import Derived.Test.YtfhhnfpapgfnmaaZPly
import Derived.Test.YtfhhnfpapgfnmaaZ16
import Derived.Test.YtfhhnfpapgfnmaaZ22
import Derived.Test.YtfhhnfpapgfnmaaZSvb
import Derived.Laws.CopyOwn
import Derived.Test.YtfhhnfpapgfnmaaEch
set_option linter.unusedVariables false
set_option linter.unusedSimpArgs false
set_option linter.unusedSectionVars false
namespace Go.Proofs.Ytfhhnfpapgfnmaa
namespace FFld
namespace Dom
variable {α : Type} (F : Dom α)
theorem sm_mulr (a : α) (f : Nat → α) (n : Nat) : F.sm (fun i => F.mul (f i) a) n = F.mul (F.sm f n) a := by
  rw [F.mul_comm (F.sm f n), ← F.sm_mul]
  exact F.sm_congr n fun i _ => F.mul_comm _ _
theorem sm_ext (f : Nat → α) (n : Nat) (hz : ∀ i, n ≤ i → f i = F.zero) : ∀ d, F.sm f (n + d) = F.sm f n
  | 0 => rfl
  | d + 1 => by
    show F.add (F.sm f (n + d)) (f (n + d)) = _
    rw [sm_ext f n hz d, hz _ (by omega), F.add_zero]
/-- The product of two power series. -/
def cv (f g : Nat → α) (n : Nat) : α := F.sm (fun i => F.mul (f i) (g (n - i))) (n + 1)
theorem cv_sq (f g : Nat → α) {n N : Nat} (h : n < N) : F.cv f g n = F.sm (fun i => F.sm (fun j => if i + j = n then F.mul (f i) (g j) else F.zero) N) N := by
  have e : ∀ i, F.sm (fun j => if i + j = n then F.mul (f i) (g j) else F.zero) N = if i ≤ n then F.mul (f i) (g (n - i)) else F.zero := fun i => by
    by_cases hi : i ≤ n
    · rw [if_pos hi, F.sm_one (j := n - i) N (by omega) fun j _ hne => if_neg (by omega), if_pos (by omega)]
    · rw [if_neg hi]
      exact F.sm_zero N fun j _ => if_neg (by omega)
  rw [F.sm_congr N fun i _ => e i]
  obtain ⟨d, rfl⟩ : ∃ d, N = n + 1 + d := ⟨N - (n + 1), by omega⟩
  rw [F.sm_ext _ (n + 1) (fun i hi => if_neg (by omega)) d]
  exact F.sm_congr _ fun i hi => (if_pos (by omega)).symm
theorem cv_comm (f g : Nat → α) : F.cv f g = F.cv g f := by
  funext n
  rw [F.cv_sq f g (Nat.lt_succ_self n), F.cv_sq g f (Nat.lt_succ_self n), F.sm_comm]
  exact F.sm_congr _ fun i _ => F.sm_congr _ fun j _ => by rw [Nat.add_comm, F.mul_comm]
theorem cv3 (f g h : Nat → α) (n : Nat) : F.cv (F.cv f g) h n = F.sm (fun i => F.sm (fun j => F.sm (fun k => if i + j + k = n then F.mul (F.mul (f i) (g j)) (h k) else F.zero) (n + 1)) (n + 1)) (n + 1) := by
  have s1 : F.cv (F.cv f g) h n = F.sm (fun m => F.sm (fun k => F.sm (fun i => F.sm (fun j => if m + k = n ∧ i + j = m then F.mul (F.mul (f i) (g j)) (h k) else F.zero) (n + 1)) (n + 1)) (n + 1)) (n + 1) := by
    rw [F.cv_sq _ h (Nat.lt_succ_self n)]
    refine F.sm_congr _ fun m hm => F.sm_congr _ fun k _ => ?_
    by_cases e : m + k = n
    · rw [if_pos e, F.cv_sq f g (N := n + 1) (by omega), ← F.sm_mulr]
      refine F.sm_congr _ fun i _ => ?_
      rw [← F.sm_mulr]
      refine F.sm_congr _ fun j _ => ?_
      by_cases e2 : i + j = m
      · rw [if_pos e2, if_pos ⟨e, e2⟩]
      · rw [if_neg e2, if_neg (fun q => e2 q.2), F.zero_mul]
    · rw [if_neg e]
      exact (F.sm_zero _ fun i _ => F.sm_zero _ fun j _ => if_neg (fun q => e q.1)).symm
  have s2 : ∀ k i j, F.sm (fun m => if m + k = n ∧ i + j = m then F.mul (F.mul (f i) (g j)) (h k) else F.zero) (n + 1) = if i + j + k = n then F.mul (F.mul (f i) (g j)) (h k) else F.zero := fun k i j => by
    by_cases e : i + j + k = n
    · rw [if_pos e, F.sm_one (j := i + j) _ (by omega) fun m _ hne => if_neg (fun q => hne q.2.symm), if_pos ⟨e, rfl⟩]
    · rw [if_neg e]
      exact F.sm_zero _ fun m _ => if_neg (fun q => e (by omega))
  rw [s1, F.sm_comm]
  have s3 : ∀ k, F.sm (fun m => F.sm (fun i => F.sm (fun j => if m + k = n ∧ i + j = m then F.mul (F.mul (f i) (g j)) (h k) else F.zero) (n + 1)) (n + 1)) (n + 1) = F.sm (fun i => F.sm (fun j => if i + j + k = n then F.mul (F.mul (f i) (g j)) (h k) else F.zero) (n + 1)) (n + 1) := fun k => by
    rw [F.sm_comm]
    refine F.sm_congr _ fun i _ => ?_
    rw [F.sm_comm]
    exact F.sm_congr _ fun j _ => s2 k i j
  rw [F.sm_congr _ fun k _ => s3 k, F.sm_comm]
  refine F.sm_congr _ fun i _ => ?_
  exact F.sm_comm _ _ _
theorem cv_assoc (f g h : Nat → α) : F.cv (F.cv f g) h = F.cv f (F.cv g h) := by
  rw [F.cv_comm f (F.cv g h)]
  funext n
  rw [cv3, cv3]
  -- the sum over i, j, k against that over j, k, i
  have e1 : F.sm (fun i => F.sm (fun j => F.sm (fun k => if i + j + k = n then F.mul (F.mul (g i) (h j)) (f k) else F.zero) (n + 1)) (n + 1)) (n + 1) = F.sm (fun k => F.sm (fun i => F.sm (fun j => if i + j + k = n then F.mul (F.mul (g i) (h j)) (f k) else F.zero) (n + 1)) (n + 1)) (n + 1) := by
    exact (F.sm_congr _ fun i _ => F.sm_comm _ _ _).trans (F.sm_comm _ _ _)
  rw [e1]
  refine F.sm_congr _ fun i _ => F.sm_congr _ fun j _ => F.sm_congr _ fun k _ => ?_
  by_cases e : i + j + k = n
  · rw [if_pos e, if_pos (by omega), F.mul_assoc, F.mul_comm (f i)]
  · rw [if_neg e, if_neg (by omega)]
theorem cv_add (f g h : Nat → α) : F.cv f (fun i => F.add (g i) (h i)) = fun i => F.add (F.cv f g i) (F.cv f h i) := by
  funext n
  unfold cv
  rw [← F.sm_add]
  exact F.sm_congr _ fun i _ => F.mul_add _ _ _
def one1 : Nat → α := fun i => if i = 0 then F.one else F.zero
theorem cv_one (f : Nat → α) : F.cv f F.one1 = f := by
  rw [cv_comm]
  funext n
  unfold cv
  rw [F.sm_one (j := 0) _ (Nat.succ_pos n) fun i _ hne => by unfold one1; rw [if_neg hne, F.zero_mul]]
  unfold one1
  rw [if_pos rfl, F.one_mul, Nat.sub_zero]
theorem low_exists {f : Nat → α} (h : f ≠ fun _ => F.zero) : ∃ i, f i ≠ F.zero ∧ ∀ j, j < i → f j = F.zero := by
  have hex : ∃ n, f n ≠ F.zero := by
    apply Classical.byContradiction
    intro hc
    exact h (funext fun n => Classical.byContradiction fun hn => hc ⟨n, hn⟩)
  obtain ⟨n, hn⟩ := hex
  obtain ⟨m, hm, hl⟩ := exists_least (P := fun n => f n ≠ F.zero) n hn
  exact ⟨m, hm, fun j hj => Classical.byContradiction fun h => hl j hj h⟩
/-- Power series over a domain are a domain. -/
def ser : Dom (Nat → α) where
  add f g := fun i => F.add (f i) (g i)
  mul f g := F.cv f g
  zero := fun _ => F.zero
  one := F.one1
  neg f := fun i => F.neg (f i)
  add_assoc f g h := funext fun i => F.add_assoc _ _ _
  add_comm f g := funext fun i => F.add_comm _ _
  add_zero f := funext fun i => F.add_zero _
  add_neg f := funext fun i => F.add_neg _
  mul_assoc f g h := F.cv_assoc f g h
  mul_comm f g := F.cv_comm f g
  mul_one f := F.cv_one f
  mul_add f g h := F.cv_add f g h
  nzd f g h := by
    apply Classical.byContradiction
    intro hc
    obtain ⟨i, hi, hil⟩ := F.low_exists (f := f) fun e => hc (.inl e)
    obtain ⟨j, hj, hjl⟩ := F.low_exists (f := g) fun e => hc (.inr e)
    have e := congrFun h (i + j)
    have e2 : F.cv f g (i + j) = F.mul (f i) (g j) := by
      unfold cv
      rw [F.sm_one (j := i) _ (by omega) fun k hk hne => by
        rcases Nat.lt_or_gt_of_ne hne with h1 | h1
        · rw [hil k h1, F.zero_mul]
        · rw [hjl (i + j - k) (by omega), F.mul_zero], show i + j - i = j by omega]
    have e3 : F.cv f g (i + j) = F.zero := e
    rw [e2] at e3
    rcases F.nzd _ _ e3 with h1 | h1
    · exact hi h1
    · exact hj h1
  one_ne h := by
    have := congrFun h 0
    unfold one1 at this
    rw [if_pos rfl] at this
    exact F.one_ne this
/-- All coefficients from n on are 0. -/
def Sh (f : Nat → α) (n : Nat) : Prop := ∀ i, n ≤ i → f i = F.zero
theorem Sh.mono {f : Nat → α} {m n : Nat} (h : F.Sh f m) (hm : m ≤ n) : F.Sh f n := fun i hi => h i (by omega)
theorem Sh.add {f g : Nat → α} {n : Nat} (hf : F.Sh f n) (hg : F.Sh g n) : F.Sh (F.ser.add f g) n := fun i hi => by
  show F.add (f i) (g i) = _
  rw [hf i hi, hg i hi, F.add_zero]
theorem neg_zero : F.neg F.zero = F.zero := by
  have := F.add_neg F.zero
  rw [F.zero_add] at this
  exact this
theorem Sh.neg {f : Nat → α} {n : Nat} (hf : F.Sh f n) : F.Sh (F.ser.neg f) n := fun i hi => by
  show F.neg (f i) = _
  rw [hf i hi, F.neg_zero]
theorem Sh.mul {f g : Nat → α} {m n : Nat} (hf : F.Sh f m) (hg : F.Sh g n) : F.Sh (F.ser.mul f g) (m + n) := fun i hi => by
  show F.cv f g i = _
  unfold cv
  refine F.sm_zero _ fun j hj => ?_
  by_cases h : m ≤ j
  · rw [hf j h, F.zero_mul]
  · rw [hg (i - j) (by omega), F.mul_zero]
theorem Sh.mul1 {f g : Nat → α} {m n : Nat} (hf : F.Sh f (m + 1)) (hg : F.Sh g (n + 1)) : F.Sh (F.ser.mul f g) (m + n + 1) := fun i hi => by
  show F.cv f g i = _
  unfold cv
  refine F.sm_zero _ fun j hj => ?_
  by_cases h : m + 1 ≤ j
  · rw [hf j h, F.zero_mul]
  · rw [hg (i - j) (by omega), F.mul_zero]
/-- The top coefficient of a product. -/
theorem top_mul {f g : Nat → α} {m n : Nat} (hf : F.Sh f (m + 1)) (hg : F.Sh g (n + 1)) : F.ser.mul f g (m + n) = F.mul (f m) (g n) := by
  show F.cv f g (m + n) = _
  unfold cv
  rw [F.sm_one (j := m) _ (by omega) fun k hk hne => by
    rcases Nat.lt_or_gt_of_ne hne with h1 | h1
    · rw [hg (m + n - k) (by omega), F.mul_zero]
    · rw [hf k h1, F.zero_mul], show m + n - m = n by omega]
/-- a x^k. -/
def mon1 (a : α) (k : Nat) : Nat → α := fun i => if i = k then a else F.zero
theorem mon1_sh (a : α) (k : Nat) : F.Sh (F.mon1 a k) (k + 1) := fun i hi => if_neg (by omega)
/-- The degree is n. -/
def Dg (f : Nat → α) (n : Nat) : Prop := F.Sh f (n + 1) ∧ f n ≠ F.zero
theorem Dg.mul {f g : Nat → α} {m n : Nat} (hf : F.Dg f m) (hg : F.Dg g n) : F.Dg (F.ser.mul f g) (m + n) := by
  refine ⟨?_, ?_⟩
  · intro i hi
    show F.cv f g i = _
    unfold cv
    refine F.sm_zero _ fun j hj => ?_
    by_cases h : m + 1 ≤ j
    · rw [hf.1 j h, F.zero_mul]
    · rw [hg.1 (i - j) (by omega), F.mul_zero]
  · rw [F.top_mul hf.1 hg.1]
    exact F.mul_ne hf.2 hg.2
theorem Dg.ne {f : Nat → α} {n : Nat} (h : F.Dg f n) : f ≠ F.ser.zero := fun e => h.2 (congrFun e n)
theorem Dg.uniq {f : Nat → α} {m n : Nat} (h : F.Dg f m) (k : F.Dg f n) : m = n := by
  rcases Nat.lt_trichotomy m n with h1 | h1 | h1
  · exact absurd (h.1 n h1) k.2
  · exact h1
  · exact absurd (k.1 m h1) h.2
/-- A polynomial that is not 0 has a degree. -/
theorem dg_exists {f : Nat → α} : ∀ {n : Nat}, F.Sh f n → f ≠ F.ser.zero → ∃ d, d < n ∧ F.Dg f d
  | 0, h, hne => absurd (funext fun i => h i (Nat.zero_le i)) hne
  | n + 1, h, hne => by
    by_cases e : f n = F.zero
    · obtain ⟨d, hd, hg⟩ := dg_exists (n := n) (fun i hi => by
        by_cases e2 : i = n
        · rw [e2]; exact e
        · exact h i (by omega)) hne
      exact ⟨d, by omega, hg⟩
    · exact ⟨n, Nat.lt_succ_self n, h, e⟩
/-- Division with rest, by a polynomial whose top coefficient has an inverse. -/
theorem divide {g : Nat → α} {d : Nat} {u : α} (hg : F.Sh g (d + 1)) (hu : F.mul u (g d) = F.one) : ∀ (n : Nat) (f : Nat → α), F.Sh f n → ∃ s r, F.Sh s n ∧ F.Sh r d ∧ f = F.ser.add (F.ser.mul s g) r
  | 0, f, hf => ⟨F.ser.zero, F.ser.zero, fun _ _ => rfl, fun _ _ => rfl, by rw [F.ser.zero_mul, F.ser.add_zero]; exact funext fun i => hf i (Nat.zero_le i)⟩
  | n + 1, f, hf => by
    by_cases hn : n < d
    · exact ⟨F.ser.zero, f, fun _ _ => rfl, fun i hi => hf i (by omega), by rw [F.ser.zero_mul, F.ser.zero_add]⟩
    · obtain ⟨k, rfl⟩ : ∃ k, n = k + d := ⟨n - d, by omega⟩
      have hm := F.mon1_sh (F.mul (f (k + d)) u) k
      have hlow : F.Sh (F.ser.add f (F.ser.neg (F.ser.mul (F.mon1 (F.mul (f (k + d)) u) k) g))) (k + d) := fun i hi => by
        by_cases e : i = k + d
        · subst e
          show F.add (f (k + d)) (F.neg (F.ser.mul (F.mon1 (F.mul (f (k + d)) u) k) g (k + d))) = _
          rw [F.top_mul hm hg]
          unfold mon1
          rw [if_pos rfl, F.mul_assoc, hu, F.mul_one, F.add_neg]
        · show F.add (f i) (F.neg (F.ser.mul (F.mon1 (F.mul (f (k + d)) u) k) g i)) = _
          rw [hf i (by omega), (Sh.mul1 F hm hg) i (by omega), F.neg_zero, F.add_zero]
      obtain ⟨s, r, hs, hr, e⟩ := divide hg hu (k + d) _ hlow
      refine ⟨F.ser.add s (F.mon1 (F.mul (f (k + d)) u) k), r, Sh.add F (Sh.mono F hs (by omega)) (Sh.mono F hm (by omega)), hr, ?_⟩
      rw [F.ser.add_mul, F.ser.add_assoc, F.ser.add_comm _ r, ← F.ser.add_assoc, ← e, F.ser.add_assoc, F.ser.add_comm (F.ser.neg _), F.ser.add_neg, F.ser.add_zero]
end Dom
end FFld
end Go.Proofs.Ytfhhnfpapgfnmaa

set_option linter.unusedVariables false
set_option linter.unusedSimpArgs false
set_option linter.unusedSectionVars false
namespace Go.Proofs.Ytfhhnfpapgfnmaa
namespace FFld
namespace Dom
variable {α : Type} (F : Dom α)
/-- Every element but 0 has an inverse. -/
def Inv (F : Dom α) : Prop := ∀ a, a ≠ F.zero → ∃ u, F.mul u a = F.one
def Pl (F : Dom α) (f : Nat → α) : Prop := ∃ n, F.Sh f n
theorem Pl.add {f g : Nat → α} (hf : F.Pl f) (hg : F.Pl g) : F.Pl (F.ser.add f g) := by
  obtain ⟨m, hm⟩ := hf
  obtain ⟨n, hn⟩ := hg
  exact ⟨max m n, Sh.add F (Sh.mono F hm (by omega)) (Sh.mono F hn (by omega))⟩
theorem Pl.neg {f : Nat → α} (hf : F.Pl f) : F.Pl (F.ser.neg f) := by
  obtain ⟨m, hm⟩ := hf
  exact ⟨m, Sh.neg F hm⟩
theorem Pl.mul {f g : Nat → α} (hf : F.Pl f) (hg : F.Pl g) : F.Pl (F.ser.mul f g) := by
  obtain ⟨m, hm⟩ := hf
  obtain ⟨n, hn⟩ := hg
  exact ⟨m + n, Sh.mul F hm hn⟩
theorem Pl.zero : F.Pl F.ser.zero := ⟨0, fun _ _ => rfl⟩
theorem one_sh : F.Sh F.ser.one 1 := fun i hi => by
  show F.one1 i = _
  unfold one1
  rw [if_neg (by omega)]
theorem Pl.one : F.Pl F.ser.one := ⟨1, F.one_sh⟩
/-- g divides f. -/
def Dv (F : Dom α) (g f : Nat → α) : Prop := ∃ s, F.Pl s ∧ f = F.ser.mul s g
theorem Dv.self (g : Nat → α) : F.Dv g g := ⟨F.ser.one, Pl.one F, (F.ser.one_mul g).symm⟩
theorem Dv.zero (g : Nat → α) : F.Dv g F.ser.zero := ⟨F.ser.zero, Pl.zero F, (F.ser.zero_mul g).symm⟩
theorem Dv.add {g a b : Nat → α} (ha : F.Dv g a) (hb : F.Dv g b) : F.Dv g (F.ser.add a b) := by
  obtain ⟨s, hs, rfl⟩ := ha
  obtain ⟨t, ht, rfl⟩ := hb
  exact ⟨F.ser.add s t, Pl.add F hs ht, (F.ser.add_mul _ _ _).symm⟩
theorem Dv.mul {g a b : Nat → α} (ha : F.Dv g a) (hb : F.Pl b) : F.Dv g (F.ser.mul b a) := by
  obtain ⟨s, hs, rfl⟩ := ha
  exact ⟨F.ser.mul b s, Pl.mul F hb hs, (F.ser.mul_assoc _ _ _).symm⟩
theorem Dv.neg {g a : Nat → α} (ha : F.Dv g a) : F.Dv g (F.ser.neg a) := by
  obtain ⟨s, hs, rfl⟩ := ha
  refine ⟨F.ser.neg s, Pl.neg F hs, ?_⟩
  rw [F.ser.mul_comm (F.ser.neg s), F.ser.mul_neg, F.ser.mul_comm]
theorem Dv.trans {a b c : Nat → α} (h1 : F.Dv a b) (h2 : F.Dv b c) : F.Dv a c := by
  obtain ⟨s, hs, rfl⟩ := h2
  exact Dv.mul F h1 hs
/-- A multiple of a polynomial of degree d with fewer coefficients is 0. -/
theorem Dv.small {g a : Nat → α} {d : Nat} (hg : F.Dg g d) (h : F.Dv g a) (ha : F.Sh a d) : a = F.ser.zero := by
  obtain ⟨s, ⟨n, hs⟩, rfl⟩ := h
  apply Classical.byContradiction
  intro hne
  have hs0 : s ≠ F.ser.zero := fun e => hne (by rw [e, F.ser.zero_mul])
  obtain ⟨m, _, hm⟩ := F.dg_exists hs hs0
  have hd := Dg.mul F hm hg
  exact hd.2 (ha (m + d) (by omega))
theorem Dv.eq {g a b : Nat → α} {d : Nat} (hg : F.Dg g d) (ha : F.Sh a d) (hb : F.Sh b d) (h : F.Dv g (F.ser.add a (F.ser.neg b))) : a = b :=
  F.ser.eq_of_sub (Dv.small F hg h (Sh.add F ha (Sh.neg F hb)))
theorem divide_pl (hI : F.Inv) {g f : Nat → α} {d : Nat} (hg : F.Dg g d) (hf : F.Pl f) : ∃ s r, F.Pl s ∧ F.Sh r d ∧ f = F.ser.add (F.ser.mul s g) r := by
  obtain ⟨n, hn⟩ := hf
  obtain ⟨u, hu⟩ := hI _ hg.2
  obtain ⟨s, r, h1, h2, h3⟩ := F.divide hg.1 hu n f hn
  exact ⟨s, r, ⟨n, h1⟩, h2, h3⟩
/-- Irreducible, of degree d. -/
structure Ird (F : Dom α) (g : Nat → α) (d : Nat) : Prop where
  dg : F.Dg g d
  pos : 1 ≤ d
  only : ∀ h e, F.Dg h e → F.Dv h g → e = 0 ∨ e = d
theorem Dg.pl {f : Nat → α} {n : Nat} (h : F.Dg f n) : F.Pl f := ⟨n + 1, h.1⟩
theorem const_inv (hI : F.Inv) {h : Nat → α} (hd : F.Dg h 0) : ∃ w, F.Pl w ∧ F.ser.mul w h = F.ser.one := by
  obtain ⟨u, hu⟩ := hI _ hd.2
  refine ⟨F.mon1 u 0, ⟨1, F.mon1_sh u 0⟩, ?_⟩
  funext n
  show F.cv (F.mon1 u 0) h n = F.one1 n
  unfold cv
  rw [F.sm_one (j := 0) _ (Nat.succ_pos n) fun i _ hne => by unfold mon1; rw [if_neg hne, F.zero_mul]]
  unfold mon1 one1
  rw [if_pos rfl, Nat.sub_zero]
  by_cases e : n = 0
  · rw [if_pos e, e, hu]
  · rw [if_neg e, hd.1 n (by omega), F.mul_zero]
/-- What an irreducible polynomial does not divide is prime to it. -/
theorem bezout (hI : F.Inv) {g f : Nat → α} {d : Nat} (hg : F.Ird g d) (hf : F.Pl f) (hn : ¬ F.Dv g f) : ∃ u v, F.Pl u ∧ F.Pl v ∧ F.ser.add (F.ser.mul u f) (F.ser.mul v g) = F.ser.one := by
  have hgp := Dg.pl F hg.dg
  obtain ⟨e, ⟨u, v, hu, hv, he⟩, hl⟩ := exists_least (P := fun e => ∃ u v, F.Pl u ∧ F.Pl v ∧ F.Dg (F.ser.add (F.ser.mul u f) (F.ser.mul v g)) e) d ⟨F.ser.zero, F.ser.one, Pl.zero F, Pl.one F, by rw [F.ser.zero_mul, F.ser.zero_add, F.ser.one_mul]; exact hg.dg⟩
  obtain ⟨h, hh⟩ : ∃ h, F.ser.add (F.ser.mul u f) (F.ser.mul v g) = h := ⟨_, rfl⟩
  rw [hh] at he
  have key : ∀ u' v', F.Pl u' → F.Pl v' → F.Dv h (F.ser.add (F.ser.mul u' f) (F.ser.mul v' g)) := fun u' v' hu' hv' => by
    obtain ⟨s, r, hs, hr, e1⟩ := F.divide_pl hI he (Pl.add F (Pl.mul F hu' hf) (Pl.mul F hv' hgp))
    by_cases hr0 : r = F.ser.zero
    · exact ⟨s, hs, by rw [e1, hr0, F.ser.add_zero]⟩
    · exfalso
      obtain ⟨e', he', hde⟩ := F.dg_exists hr hr0
      refine hl e' he' ⟨F.ser.add u' (F.ser.neg (F.ser.mul s u)), F.ser.add v' (F.ser.neg (F.ser.mul s v)), Pl.add F hu' (Pl.neg F (Pl.mul F hs hu)), Pl.add F hv' (Pl.neg F (Pl.mul F hs hv)), ?_⟩
      have e2 : F.ser.add (F.ser.mul (F.ser.add u' (F.ser.neg (F.ser.mul s u))) f) (F.ser.mul (F.ser.add v' (F.ser.neg (F.ser.mul s v))) g) = r := by
        have n1 : ∀ a b, F.ser.mul (F.ser.neg a) b = F.ser.neg (F.ser.mul a b) := fun a b => by rw [F.ser.mul_comm, F.ser.mul_neg, F.ser.mul_comm]
        have n2 : ∀ a b, F.ser.add (F.ser.neg a) (F.ser.neg b) = F.ser.neg (F.ser.add a b) := fun a b => by
          refine F.ser.neg_unique ?_
          rw [F.ser.add4, F.ser.add_neg, F.ser.add_neg, F.ser.add_zero]
        rw [F.ser.add_mul, F.ser.add_mul, n1, n1, F.ser.add4, n2, F.ser.mul_assoc, F.ser.mul_assoc, ← F.ser.mul_add, hh, e1, F.ser.add_comm _ r, F.ser.add_assoc, F.ser.add_neg, F.ser.add_zero]
      rw [e2]
      exact hde
  have h1 : F.Dv h f := by
    have := key F.ser.one F.ser.zero (Pl.one F) (Pl.zero F)
    rw [F.ser.one_mul, F.ser.zero_mul, F.ser.add_zero] at this
    exact this
  have h2 : F.Dv h g := by
    have := key F.ser.zero F.ser.one (Pl.zero F) (Pl.one F)
    rw [F.ser.one_mul, F.ser.zero_mul, F.ser.zero_add] at this
    exact this
  rcases hg.only h e he h2 with e0 | e0
  · subst e0
    obtain ⟨w, hw, ew⟩ := F.const_inv hI he
    exact ⟨F.ser.mul w u, F.ser.mul w v, Pl.mul F hw hu, Pl.mul F hw hv, by rw [F.ser.mul_assoc, F.ser.mul_assoc, ← F.ser.mul_add, hh, ew]⟩
  · exfalso
    subst e0
    apply hn
    refine Dv.trans F ?_ h1
    obtain ⟨s, ⟨n, hs⟩, es⟩ := h2
    have hs0 : s ≠ F.ser.zero := fun e2 => Dg.ne F hg.dg (by rw [es, e2, F.ser.zero_mul])
    obtain ⟨m, _, hm⟩ := F.dg_exists hs hs0
    have hd := Dg.mul F hm he
    rw [← es] at hd
    have hm0 : m = 0 := by
      have := Dg.uniq F hd hg.dg
      omega
    subst hm0
    obtain ⟨w, hw, ew⟩ := F.const_inv hI hm
    exact ⟨w, hw, by rw [es, ← F.ser.mul_assoc, ew, F.ser.one_mul]⟩
/-- Euclid's lemma. -/
theorem prime_dv (hI : F.Inv) {g a b : Nat → α} {d : Nat} (hg : F.Ird g d) (ha : F.Pl a) (hb : F.Pl b) (h : F.Dv g (F.ser.mul a b)) : F.Dv g a ∨ F.Dv g b := by
  by_cases hga : F.Dv g a
  · exact .inl hga
  · right
    obtain ⟨u, v, hu, hv, e⟩ := F.bezout hI hg ha hga
    have e2 : b = F.ser.add (F.ser.mul u (F.ser.mul a b)) (F.ser.mul (F.ser.mul v b) g) := by
      have := congrArg (fun z => F.ser.mul z b) e
      rw [F.ser.one_mul, F.ser.add_mul] at this
      refine this.symm.trans ?_
      rw [F.ser.mul_assoc u a b, F.ser.mul_assoc v g b, F.ser.mul_assoc v b g, F.ser.mul_comm g b]
    rw [e2]
    exact Dv.add F (Dv.mul F h hu) ⟨F.ser.mul v b, Pl.mul F hv hb, rfl⟩
end Dom
/-! The residues modulo a polynomial. -/
section
variable {α : Type} {F : Dom α} (hI : F.Inv) {g : Nat → α} {d : Nat}
abbrev Res (F : Dom α) (d : Nat) : Type := {r : Nat → α // F.Sh r d}
theorem rem_exists (hI : F.Inv) (hg : F.Dg g d) (f : Nat → α) (hf : F.Pl f) : ∃ r : Res F d, F.Dv g (F.ser.add f (F.ser.neg r.1)) := by
  obtain ⟨s, r, hs, hr, e⟩ := F.divide_pl hI hg hf
  exact ⟨⟨r, hr⟩, s, hs, by rw [e, F.ser.add_assoc, F.ser.add_neg, F.ser.add_zero]⟩
noncomputable def rem (hI : F.Inv) (hg : F.Dg g d) (f : Nat → α) (hf : F.Pl f) : Res F d := Classical.choose (rem_exists hI hg f hf)
theorem rem_spec (hI : F.Inv) (hg : F.Dg g d) (f : Nat → α) (hf : F.Pl f) : F.Dv g (F.ser.add f (F.ser.neg (rem hI hg f hf).1)) := Classical.choose_spec (rem_exists hI hg f hf)
/-- The same modulo g. -/
def Eqv (F : Dom α) (g a b : Nat → α) : Prop := F.Dv g (F.ser.add a (F.ser.neg b))
theorem Eqv.refl (a : Nat → α) : Eqv F g a a := by
  unfold Eqv
  rw [F.ser.add_neg]
  exact Dom.Dv.zero F g
theorem Eqv.symm {a b : Nat → α} (h : Eqv F g a b) : Eqv F g b a := by
  have := Dom.Dv.neg F h
  have e : F.ser.neg (F.ser.add a (F.ser.neg b)) = F.ser.add b (F.ser.neg a) := by
    symm
    refine F.ser.neg_unique ?_
    rw [F.ser.add_comm b, F.ser.add4, F.ser.add_neg, F.ser.add_comm (F.ser.neg b), F.ser.add_neg, F.ser.add_zero]
  rw [e] at this
  exact this
theorem Eqv.trans {a b c : Nat → α} (h : Eqv F g a b) (k : Eqv F g b c) : Eqv F g a c := by
  have := Dom.Dv.add F h k
  have e : F.ser.add (F.ser.add a (F.ser.neg b)) (F.ser.add b (F.ser.neg c)) = F.ser.add a (F.ser.neg c) := by
    rw [F.ser.add_assoc, ← F.ser.add_assoc (F.ser.neg b), F.ser.add_comm (F.ser.neg b), F.ser.add_neg, F.ser.zero_add]
  rw [e] at this
  exact this
theorem Eqv.add {a b a' b' : Nat → α} (h : Eqv F g a a') (k : Eqv F g b b') : Eqv F g (F.ser.add a b) (F.ser.add a' b') := by
  have := Dom.Dv.add F h k
  have n2 : ∀ a b, F.ser.add (F.ser.neg a) (F.ser.neg b) = F.ser.neg (F.ser.add a b) := fun a b => by
    refine F.ser.neg_unique ?_
    rw [F.ser.add4, F.ser.add_neg, F.ser.add_neg, F.ser.add_zero]
  rw [F.ser.add4, n2] at this
  exact this
theorem Eqv.mul {a b a' b' : Nat → α} (ha : F.Pl b) (hb : F.Pl a') (h : Eqv F g a a') (k : Eqv F g b b') : Eqv F g (F.ser.mul a b) (F.ser.mul a' b') := by
  refine Eqv.trans (b := F.ser.mul a' b) ?_ ?_
  · have := Dom.Dv.mul F h ha
    rw [F.ser.mul_add, F.ser.mul_neg, F.ser.mul_comm b, F.ser.mul_comm b] at this
    exact this
  · have := Dom.Dv.mul F k hb
    rw [F.ser.mul_add, F.ser.mul_neg] at this
    exact this
theorem Eqv.eq {a b : Nat → α} (hg : F.Dg g d) (ha : F.Sh a d) (hb : F.Sh b d) (h : Eqv F g a b) : a = b := Dom.Dv.eq F hg ha hb h
theorem rem_eqv (hI : F.Inv) (hg : F.Dg g d) (f : Nat → α) (hf : F.Pl f) : Eqv F g f (rem hI hg f hf).1 := rem_spec hI hg f hf
theorem res_pl (r : Res F d) : F.Pl r.1 := ⟨d, r.2⟩
theorem res_sh (r : Res F d) : F.Sh r.1 d := r.2
/-- The field of the residues modulo an irreducible polynomial. -/
noncomputable def quo (hI : F.Inv) (hg : F.Ird g d) : Dom (Res F d) where
  add a b := ⟨F.ser.add a.1 b.1, Dom.Sh.add F a.2 b.2⟩
  mul a b := rem hI hg.dg (F.ser.mul a.1 b.1) (Dom.Pl.mul F (res_pl a) (res_pl b))
  zero := ⟨F.ser.zero, fun _ _ => rfl⟩
  one := ⟨F.ser.one, Dom.Sh.mono F F.one_sh hg.pos⟩
  neg a := ⟨F.ser.neg a.1, Dom.Sh.neg F a.2⟩
  add_assoc a b c := Subtype.ext (F.ser.add_assoc _ _ _)
  add_comm a b := Subtype.ext (F.ser.add_comm _ _)
  add_zero a := Subtype.ext (F.ser.add_zero _)
  add_neg a := Subtype.ext (F.ser.add_neg _)
  mul_assoc a b c := Subtype.ext (by
    refine Eqv.eq hg.dg (res_sh _) (res_sh _) ?_
    refine Eqv.trans (rem_eqv hI hg.dg _ _).symm ?_
    refine Eqv.trans ?_ (rem_eqv hI hg.dg _ _)
    refine Eqv.trans (Eqv.mul (res_pl c) (Dom.Pl.mul F (res_pl a) (res_pl b)) (rem_eqv hI hg.dg _ _).symm (Eqv.refl c.1)) ?_
    rw [F.ser.mul_assoc]
    exact Eqv.mul (Dom.Pl.mul F (res_pl b) (res_pl c)) (res_pl a) (Eqv.refl a.1) (rem_eqv hI hg.dg _ _))
  mul_comm a b := Subtype.ext (by
    refine Eqv.eq hg.dg (res_sh _) (res_sh _) ?_
    refine Eqv.trans (rem_eqv hI hg.dg _ _).symm ?_
    refine Eqv.trans ?_ (rem_eqv hI hg.dg _ _)
    rw [F.ser.mul_comm]
    exact Eqv.refl _)
  mul_one a := Subtype.ext (by
    refine Eqv.eq hg.dg (res_sh _) a.2 ?_
    refine Eqv.trans (rem_eqv hI hg.dg _ _).symm ?_
    show Eqv F g (F.ser.mul a.1 F.ser.one) a.1
    rw [F.ser.mul_one]
    exact Eqv.refl _)
  mul_add a b c := Subtype.ext (by
    refine Eqv.eq hg.dg (res_sh _) (res_sh _) ?_
    refine Eqv.trans (rem_eqv hI hg.dg _ _).symm ?_
    show Eqv F g (F.ser.mul a.1 (F.ser.add b.1 c.1)) _
    rw [F.ser.mul_add]
    exact Eqv.add (rem_eqv hI hg.dg _ _) (rem_eqv hI hg.dg _ _))
  nzd a b h := by
    have e : (rem hI hg.dg (F.ser.mul a.1 b.1) (Dom.Pl.mul F (res_pl a) (res_pl b))).1 = F.ser.zero := congrArg Subtype.val h
    have h1 := rem_spec hI hg.dg (F.ser.mul a.1 b.1) (Dom.Pl.mul F (res_pl a) (res_pl b))
    rw [e] at h1
    have e2 : F.ser.neg F.ser.zero = F.ser.zero := F.ser.neg_zero
    rw [e2, F.ser.add_zero] at h1
    rcases F.prime_dv hI hg (res_pl a) (res_pl b) h1 with h2 | h2
    · exact .inl (Subtype.ext (Dom.Dv.small F hg.dg h2 a.2))
    · exact .inr (Subtype.ext (Dom.Dv.small F hg.dg h2 b.2))
  one_ne h := F.ser.one_ne (congrArg Subtype.val h)
/-- Powers of residues are residues of powers. -/
theorem quo_pow (hI : F.Inv) (hg : F.Ird g d) (a : Res F d) : ∀ n, Eqv F g (F.ser.pow a.1 n) ((quo hI hg).pow a n).1 ∧ F.Pl (F.ser.pow a.1 n)
  | 0 => ⟨Eqv.refl _, Dom.Pl.one F⟩
  | n + 1 => by
    obtain ⟨h1, h2⟩ := quo_pow hI hg a n
    refine ⟨?_, Dom.Pl.mul F h2 (res_pl a)⟩
    show Eqv F g (F.ser.mul (F.ser.pow a.1 n) a.1) (rem hI hg.dg (F.ser.mul ((quo hI hg).pow a n).1 a.1) (Dom.Pl.mul F (res_pl _) (res_pl a))).1
    exact Eqv.trans (Eqv.mul (res_pl a) (res_pl _) h1 (Eqv.refl _)) (rem_eqv hI hg.dg _ _)
/-! There are q^d residues. -/
def consR (F : Dom α) {d : Nat} (a : α) (r : Res F d) : Res F (d + 1) := ⟨fun i => if i = 0 then a else r.1 (i - 1), fun i hi => by
  show (if i = 0 then a else r.1 (i - 1)) = _
  rw [if_neg (by omega)]
  exact r.2 _ (by omega)⟩
def vecs (F : Dom α) (E : List α) : (d : Nat) → List (Res F d)
  | 0 => [⟨fun _ => F.zero, fun _ _ => rfl⟩]
  | d + 1 => E.flatMap fun a => (vecs F E d).map (consR F a)
theorem vecs_len (E : List α) : ∀ d, (vecs F E d).length = E.length ^ d
  | 0 => rfl
  | d + 1 => by
    have : ∀ l : List α, (l.flatMap fun a => (vecs F E d).map (consR F a)).length = l.length * E.length ^ d := fun l => by
      induction l with
      | nil => simp
      | cons a l ih => rw [List.flatMap_cons, List.length_append, ih, List.length_map, vecs_len E d, List.length_cons, Nat.add_mul, Nat.one_mul, Nat.add_comm]
    show (E.flatMap _).length = _
    rw [this, Nat.pow_succ, Nat.mul_comm]
theorem consR_inj {a b : α} {r s : Res F d} (h : consR F a r = consR F b s) : a = b ∧ r = s := by
  have e := congrArg Subtype.val h
  constructor
  · have := congrFun e 0
    simpa [consR] using this
  · apply Subtype.ext
    funext i
    have := congrFun e (i + 1)
    simpa [consR] using this
theorem vecs_mem {E : List α} (hE : ∀ a, a ∈ E) : ∀ (d : Nat) (r : Res F d), r ∈ vecs F E d
  | 0, r => List.mem_singleton.2 (Subtype.ext (funext fun i => r.2 i (Nat.zero_le i)))
  | d + 1, r => by
    refine List.mem_flatMap.2 ⟨r.1 0, hE _, List.mem_map.2 ⟨⟨fun i => r.1 (i + 1), fun i hi => r.2 _ (by omega)⟩, vecs_mem hE d _, ?_⟩⟩
    apply Subtype.ext
    funext i
    show (if i = 0 then r.1 0 else r.1 (i - 1 + 1)) = r.1 i
    by_cases e : i = 0
    · rw [if_pos e, e]
    · rw [if_neg e, Nat.sub_add_cancel (by omega)]
theorem flat_nodup {V : List (Res F d)} (hV : V.Nodup) : ∀ {l : List α}, l.Nodup → (l.flatMap fun a => V.map (consR F a)).Nodup
  | [], _ => by simp
  | a :: l, h => by
    obtain ⟨h1, h2⟩ := List.nodup_cons.1 h
    rw [List.flatMap_cons, List.nodup_append]
    refine ⟨?_, flat_nodup hV h2, fun x hx y hy e => ?_⟩
    · rw [List.nodup_iff_pairwise_ne, List.pairwise_map]
      exact (List.nodup_iff_pairwise_ne.1 hV).imp fun h e => h (consR_inj e).2
    · obtain ⟨r, _, rfl⟩ := List.mem_map.1 hx
      obtain ⟨c, hc, hy2⟩ := List.mem_flatMap.1 hy
      obtain ⟨s, _, rfl⟩ := List.mem_map.1 hy2
      exact h1 ((consR_inj e).1 ▸ hc)
theorem vecs_nodup {E : List α} (hE : E.Nodup) : ∀ d, (vecs F E d).Nodup
  | 0 => by simp [vecs]
  | d + 1 => flat_nodup (vecs_nodup hE d) hE
/-- Fermat's law in the field of residues. -/
theorem quo_fermat (hI : F.Inv) (hg : F.Ird g d) {E : List α} (hE : E.Nodup) (hm : ∀ a, a ∈ E) (a : Res F d) : (quo hI hg).pow a (E.length ^ d) = a := by
  haveI : DecidableEq (Res F d) := fun a b => Classical.propDecidable (a = b)
  have hlen : 0 < E.length ^ d := Nat.pow_pos (List.length_pos_iff.2 (List.ne_nil_of_mem (hm F.zero)))
  have hL : (quo hI hg).All ((vecs F E d).erase (quo hI hg).zero) := ⟨(vecs_nodup hE d).erase _, fun a => by
    rw [(vecs_nodup hE d).mem_erase_iff]
    exact ⟨fun h => h.1, fun h => ⟨h, vecs_mem hm d a⟩⟩⟩
  have hll : ((vecs F E d).erase (quo hI hg).zero).length = E.length ^ d - 1 := by
    rw [List.length_erase_of_mem (vecs_mem hm d _), vecs_len]
  by_cases h0 : a = (quo hI hg).zero
  · subst h0
    exact Dom.zero_pow _ hlen
  · have := Dom.fermat _ hL h0
    rw [hll] at this
    rw [show E.length ^ d = E.length ^ d - 1 + 1 by omega, Dom.pow_succ, this, Dom.one_mul]
theorem Eqv.pow {a b : Nat → α} (ha : F.Pl a) (hb : F.Pl b) (h : Eqv F g a b) : ∀ n, Eqv F g (F.ser.pow a n) (F.ser.pow b n) ∧ F.Pl (F.ser.pow a n) ∧ F.Pl (F.ser.pow b n)
  | 0 => ⟨Eqv.refl _, Dom.Pl.one F, Dom.Pl.one F⟩
  | n + 1 => by
    obtain ⟨h1, h2, h3⟩ := Eqv.pow ha hb h n
    exact ⟨Eqv.mul ha h3 h1 h, Dom.Pl.mul F h2 ha, Dom.Pl.mul F h3 hb⟩
/-- Every polynomial is its own q^d-th power modulo g. -/
theorem pow_eqv (hI : F.Inv) (hg : F.Ird g d) {E : List α} (hE : E.Nodup) (hm : ∀ a, a ∈ E) {f : Nat → α} (hf : F.Pl f) : Eqv F g (F.ser.pow f (E.length ^ d)) f := by
  have h1 := rem_eqv hI hg.dg f hf
  have h2 := (Eqv.pow hf (res_pl (rem hI hg.dg f hf)) h1 (E.length ^ d)).1
  have h3 := (quo_pow hI hg (rem hI hg.dg f hf) (E.length ^ d)).1
  rw [quo_fermat hI hg hE hm] at h3
  exact Eqv.trans h2 (Eqv.trans h3 h1.symm)
end
end FFld
end Go.Proofs.Ytfhhnfpapgfnmaa

set_option linter.unusedVariables false
set_option linter.unusedSimpArgs false
set_option linter.unusedSectionVars false
namespace Go.Proofs.Ytfhhnfpapgfnmaa
namespace FFld
/-- A field within a domain. -/
structure Emb {α β : Type} (F : Dom α) (G : Dom β) (φ : α → β) : Prop where
  add : ∀ a b, φ (F.add a b) = G.add (φ a) (φ b)
  mul : ∀ a b, φ (F.mul a b) = G.mul (φ a) (φ b)
  zero : φ F.zero = G.zero
  one : φ F.one = G.one
  inj : ∀ a b, φ a = φ b → a = b
theorem Emb.pow {α β : Type} {F : Dom α} {G : Dom β} {φ : α → β} (h : Emb F G φ) (a : α) : ∀ n, φ (F.pow a n) = G.pow (φ a) n
  | 0 => h.one
  | n + 1 => by rw [Dom.pow_succ, Dom.pow_succ, h.mul, h.pow a n]
/-- All elements of a field. -/
structure Els {α : Type} (F : Dom α) (E : List α) : Prop where
  nodup : E.Nodup
  mem : ∀ a, a ∈ E
  pow : ∀ a, F.pow a E.length = a
theorem Els.pos {α : Type} {F : Dom α} {E : List α} (h : Els F E) : 1 ≤ E.length := List.length_pos_iff.2 (List.ne_nil_of_mem (h.mem F.zero))
/-- The q-th power of a sum, in a domain over the field. -/
theorem Emb.frob {α β : Type} {F : Dom α} {G : Dom β} {φ : α → β} (h : Emb F G φ) {E : List α} (hE : Els F E) (x y : β) : G.pow (G.add x y) E.length = G.add (G.pow x E.length) (G.pow y E.length) := by
  by_cases h0 : y = G.zero
  · subst h0
    rw [G.zero_pow hE.pos, G.add_zero, G.add_zero]
  · refine G.add_pow_all y hE.pos (E.map fun c => G.mul (φ c) y) ?_ (by simp) (fun r hr => ?_) x
    · rw [List.nodup_iff_pairwise_ne, List.pairwise_map]
      exact (List.nodup_iff_pairwise_ne.1 hE.nodup).imp fun hne e => hne (h.inj _ _ (G.mul_left_cancel h0 (by rw [G.mul_comm y, G.mul_comm y]; exact e)))
    · obtain ⟨c, _, rfl⟩ := List.mem_map.1 hr
      have e : G.add (G.mul (φ c) y) y = G.mul (φ (F.add c F.one)) y := by rw [h.add, h.one, G.add_mul, G.one_mul]
      have p1 : ∀ c, G.pow (φ c) E.length = φ c := fun c => by rw [← h.pow, hE.pow]
      rw [e, G.mul_pow, G.mul_pow, p1, p1, h.add, h.one, G.add_mul, G.one_mul]
theorem Emb.frob_iter {α β : Type} {F : Dom α} {G : Dom β} {φ : α → β} (h : Emb F G φ) {E : List α} (hE : Els F E) (x y : β) : ∀ d, G.pow (G.add x y) (E.length ^ d) = G.add (G.pow x (E.length ^ d)) (G.pow y (E.length ^ d))
  | 0 => by rw [Nat.pow_zero, G.pow_one, G.pow_one, G.pow_one]
  | d + 1 => by rw [Nat.pow_succ, G.pow_mul, G.pow_mul, G.pow_mul, h.frob_iter hE x y d, h.frob hE]
section
variable {α : Type} {F : Dom α} {E : List α} {g : Nat → α} {d n : Nat}
theorem Els.pow_iter (hE : Els F E) (a : α) : ∀ d, F.pow a (E.length ^ d) = a
  | 0 => by rw [Nat.pow_zero, F.pow_one]
  | d + 1 => by rw [Nat.pow_succ, F.pow_mul, hE.pow_iter a d, hE.pow]
/-- Constants. -/
theorem const_mul (a : α) (f : Nat → α) (n : Nat) : F.ser.mul (F.mon1 a 0) f n = F.mul a (f n) := by
  show F.cv (F.mon1 a 0) f n = _
  unfold Dom.cv
  rw [F.sm_one (j := 0) _ (Nat.succ_pos n) fun i _ hne => by unfold Dom.mon1; rw [if_neg hne, F.zero_mul]]
  unfold Dom.mon1
  rw [if_pos rfl, Nat.sub_zero]
theorem emb_ser : Emb F F.ser (fun a => F.mon1 a 0) where
  add a b := funext fun i => by
    show (if i = 0 then F.add a b else F.zero) = F.add (if i = 0 then a else F.zero) (if i = 0 then b else F.zero)
    by_cases e : i = 0
    · rw [if_pos e, if_pos e, if_pos e]
    · rw [if_neg e, if_neg e, if_neg e, F.add_zero]
  mul a b := funext fun i => by
    rw [const_mul]
    show (if i = 0 then F.mul a b else F.zero) = F.mul a (if i = 0 then b else F.zero)
    by_cases e : i = 0
    · rw [if_pos e, if_pos e]
    · rw [if_neg e, if_neg e, F.mul_zero]
  zero := funext fun i => by
    show (if i = 0 then F.zero else F.zero) = F.zero
    split <;> rfl
  one := rfl
  inj a b h := by
    have := congrFun h 0
    simpa [Dom.mon1] using this
/-- x. -/
def xx (F : Dom α) : Nat → α := F.mon1 F.one 1
theorem xx_pl : F.Pl (xx F) := ⟨2, F.mon1_sh F.one 1⟩
theorem xx_mul (f : Nat → α) (n : Nat) : F.ser.mul (xx F) f n = if n = 0 then F.zero else f (n - 1) := by
  show F.cv (xx F) f n = _
  unfold Dom.cv xx
  by_cases e : n = 0
  · subst e
    rw [if_pos rfl]
    exact F.sm_zero _ fun i hi => by
      unfold Dom.mon1
      rw [if_neg (by omega), F.zero_mul]
  · rw [if_neg e, F.sm_one (j := 1) _ (by omega) fun i _ hne => by unfold Dom.mon1; rw [if_neg hne, F.zero_mul]]
    unfold Dom.mon1
    rw [if_pos rfl, F.one_mul]
/-- A polynomial is its first coefficient and x times the rest of it. -/
theorem split_x (f : Nat → α) : f = F.ser.add (F.mon1 (f 0) 0) (F.ser.mul (xx F) (fun i => f (i + 1))) := by
  funext n
  show f n = F.add (F.mon1 (f 0) 0 n) (F.ser.mul (xx F) (fun i => f (i + 1)) n)
  rw [xx_mul]
  unfold Dom.mon1
  by_cases e : n = 0
  · rw [if_pos e, if_pos e, F.add_zero, e]
  · rw [if_neg e, if_neg e, F.zero_add, Nat.sub_add_cancel (by omega)]
/-- If x is its own power modulo g, every polynomial is. -/
theorem all_pow (hE : Els F E) (hx : Eqv F g (F.ser.pow (xx F) (E.length ^ d)) (xx F)) : ∀ (n : Nat) (f : Nat → α), F.Sh f n → Eqv F g (F.ser.pow f (E.length ^ d)) f ∧ F.Pl (F.ser.pow f (E.length ^ d))
  | 0, f, hf => by
    have e : f = F.ser.zero := funext fun i => hf i (Nat.zero_le i)
    rw [e, F.ser.zero_pow (Nat.pow_pos hE.pos)]
    exact ⟨Eqv.refl _, Dom.Pl.zero F⟩
  | n + 1, f, hf => by
    obtain ⟨h1, h2⟩ := all_pow hE hx n (fun i => f (i + 1)) fun i hi => hf _ (by omega)
    have e := split_x (F := F) f
    have hp : F.ser.pow f (E.length ^ d) = F.ser.add (F.mon1 (f 0) 0) (F.ser.mul (F.ser.pow (xx F) (E.length ^ d)) (F.ser.pow (fun i => f (i + 1)) (E.length ^ d))) := by
      conv => lhs; rw [e]
      rw [emb_ser.frob_iter hE, F.ser.mul_pow]
      congr 1
      rw [← emb_ser.pow, hE.pow_iter]
    have hxp : F.Pl (F.ser.pow (xx F) (E.length ^ d)) := (Eqv.pow (g := g) xx_pl xx_pl (Eqv.refl _) _).2.1
    have hfp : F.Pl (fun i => f (i + 1)) := ⟨n, fun i hi => hf _ (by omega)⟩
    rw [hp]
    refine ⟨?_, Dom.Pl.add F ⟨1, F.mon1_sh _ 0⟩ (Dom.Pl.mul F hxp h2)⟩
    conv => rhs; rw [e]
    exact Eqv.add (Eqv.refl _) (Eqv.mul h2 xx_pl hx h1)
/-- An irreducible polynomial of degree n does not divide x^(q^d) - x, for d below n. -/
theorem ird_no (hI : F.Inv) (hE : Els F E) (hq : 2 ≤ E.length) (hg : F.Ird g n) (hd1 : 1 ≤ d) (hd : d < n) : ¬ Eqv F g (F.ser.pow (xx F) (E.length ^ d)) (xx F) := fun hx => by
  haveI : DecidableEq (Res F n) := fun a b => Classical.propDecidable (a = b)
  have hall : ∀ a : Res F n, (quo hI hg).pow a (E.length ^ d) = a := fun a => by
    apply Subtype.ext
    refine Eqv.eq hg.dg (res_sh _) a.2 ?_
    exact Eqv.trans (quo_pow hI hg a _).1.symm (all_pow hE hx n a.1 a.2).1
  have hpos : 0 < E.length ^ d := Nat.pow_pos (by omega)
  have hlt : E.length ^ d < E.length ^ n := Nat.pow_lt_pow_right (by omega) hd
  have hone : ∀ a ∈ (vecs F E n).erase (quo hI hg).zero, (quo hI hg).pow a (E.length ^ d - 1) = (quo hI hg).one := fun a ha => by
    have hne := ((vecs_nodup hE.nodup n).mem_erase_iff.1 ha).1
    have e := hall a
    rw [show E.length ^ d = E.length ^ d - 1 + 1 by omega, Dom.pow_succ] at e
    refine Dom.mul_left_cancel _ hne ?_
    rw [Dom.mul_comm, e, Dom.mul_one]
  have hll : ((vecs F E n).erase (quo hI hg).zero).length = E.length ^ n - 1 := by
    rw [List.length_erase_of_mem (vecs_mem hE.mem n _), vecs_len]
  have h2 : 2 ≤ E.length ^ d := by
    obtain ⟨k, rfl⟩ : ∃ k, d = k + 1 := ⟨d - 1, by omega⟩
    have := Nat.pow_pos (n := k) (show 0 < E.length by omega)
    rw [Nat.pow_succ]
    exact Nat.le_trans hq (Nat.le_mul_of_pos_left _ this)
  have := Dom.roots_pow (quo hI hg) (n := E.length ^ d - 1) (by omega) _ ((vecs_nodup hE.nodup n).erase _) hone
  rw [hll] at this
  omega
end
end FFld
end Go.Proofs.Ytfhhnfpapgfnmaa

set_option linter.unusedVariables false
set_option linter.unusedSimpArgs false
set_option linter.unusedSectionVars false
namespace Go.Proofs.Ytfhhnfpapgfnmaa
namespace FFld
namespace Dom
variable {α : Type} (F : Dom α)
/-- n times 1. -/
def nm (F : Dom α) : Nat → α
  | 0 => F.zero
  | n + 1 => F.add (nm F n) F.one
theorem nm_add (m : Nat) : ∀ n, F.nm (m + n) = F.add (F.nm m) (F.nm n)
  | 0 => (F.add_zero _).symm
  | n + 1 => by
    show F.add (F.nm (m + n)) F.one = F.add (F.nm m) (F.add (F.nm n) F.one)
    rw [nm_add m n, F.add_assoc]
theorem nm_mul (m : Nat) : ∀ n, F.nm (m * n) = F.mul (F.nm m) (F.nm n)
  | 0 => (F.mul_zero _).symm
  | n + 1 => by
    rw [Nat.mul_succ, nm_add, nm_mul m n]
    show _ = F.mul (F.nm m) (F.add (F.nm n) F.one)
    rw [F.mul_add, F.mul_one]
theorem nm_one : F.nm 1 = F.one := F.zero_add _
theorem nm_pow (m : Nat) : ∀ n, F.nm (m ^ n) = F.pow (F.nm m) n
  | 0 => F.nm_one
  | n + 1 => by rw [Nat.pow_succ, nm_mul, nm_pow m n, pow_succ]
theorem sm_shift (f : Nat → α) : ∀ n, F.sm f (n + 1) = F.add (f 0) (F.sm (fun i => f (i + 1)) n)
  | 0 => by
    show F.add F.zero (f 0) = F.add (f 0) F.zero
    rw [F.add_comm]
  | n + 1 => by
    show F.add (F.sm f (n + 1)) (f (n + 1)) = F.add (f 0) (F.add (F.sm (fun i => f (i + 1)) n) (f (n + 1)))
    rw [sm_shift f n, F.add_assoc]
/-- The derivative. -/
def der (F : Dom α) (f : Nat → α) : Nat → α := fun i => F.mul (F.nm (i + 1)) (f (i + 1))
theorem der_sh {f : Nat → α} {n : Nat} (h : F.Sh f (n + 1)) : F.Sh (F.der f) n := fun i hi => by
  show F.mul _ (f (i + 1)) = _
  rw [h _ (by omega), F.mul_zero]
theorem der_pl {f : Nat → α} (h : F.Pl f) : F.Pl (F.der f) := by
  obtain ⟨n, hn⟩ := h
  exact ⟨n, F.der_sh (Sh.mono F hn (by omega))⟩
theorem der_mul (f g : Nat → α) : F.der (F.ser.mul f g) = F.ser.add (F.ser.mul (F.der f) g) (F.ser.mul f (F.der g)) := by
  funext n
  show F.mul (F.nm (n + 1)) (F.cv f g (n + 1)) = F.add (F.cv (F.der f) g n) (F.cv f (F.der g) n)
  have e : ∀ i, i < n + 1 + 1 → F.mul (F.nm (n + 1)) (F.mul (f i) (g (n + 1 - i))) = F.add (F.mul (F.mul (F.nm i) (f i)) (g (n + 1 - i))) (F.mul (f i) (F.mul (F.nm (n + 1 - i)) (g (n + 1 - i)))) := fun i hi => by
    obtain ⟨j, hj⟩ : ∃ j, n + 1 = i + j := ⟨n + 1 - i, by omega⟩
    rw [hj, Nat.add_sub_cancel_left, nm_add, F.add_mul, F.mul_assoc (F.nm i) (f i), ← F.mul_assoc (F.nm j) (f i), F.mul_comm (F.nm j) (f i), F.mul_assoc (f i) (F.nm j)]
  unfold cv
  rw [← F.sm_mul, F.sm_congr (n + 1 + 1) e, F.sm_add]
  congr 1
  · rw [F.sm_shift]
    show F.add (F.mul (F.mul F.zero (f 0)) _) _ = _
    rw [F.zero_mul, F.zero_mul, F.zero_add]
    exact F.sm_congr _ fun i hi => by
      show F.mul (F.mul (F.nm (i + 1)) (f (i + 1))) (g (n + 1 - (i + 1))) = F.mul (F.mul (F.nm (i + 1)) (f (i + 1))) (g (n - i))
      rw [Nat.add_sub_add_right]
  · show F.add (F.sm _ (n + 1)) (F.mul (f (n + 1)) (F.mul (F.nm (n + 1 - (n + 1))) (g (n + 1 - (n + 1))))) = _
    rw [Nat.sub_self]
    show F.add _ (F.mul (f (n + 1)) (F.mul F.zero _)) = _
    rw [F.zero_mul, F.mul_zero, F.add_zero]
    exact F.sm_congr _ fun i hi => by
      show F.mul (f i) (F.mul (F.nm (n + 1 - i)) (g (n + 1 - i))) = F.mul (f i) (F.mul (F.nm (n - i + 1)) (g (n - i + 1)))
      rw [show n + 1 - i = n - i + 1 by omega]
/-- What divides both factors divides the derivative of the product. -/
theorem sq_der {g a b : Nat → α} (ha : F.Pl a) (hb : F.Pl b) (h1 : F.Dv g a) (h2 : F.Dv g b) : F.Dv g (F.der (F.ser.mul a b)) := by
  rw [der_mul]
  refine Dv.add F (Dv.mul F h2 (F.der_pl ha)) ?_
  rw [F.ser.mul_comm]
  exact Dv.mul F h1 (F.der_pl hb)
/-- The greatest common divisor. -/
theorem gcd_exists (hI : F.Inv) {f g : Nat → α} {d : Nat} (hf : F.Pl f) (hg : F.Dg g d) : ∃ h e u v, e ≤ d ∧ F.Dg h e ∧ F.Pl u ∧ F.Pl v ∧ F.ser.add (F.ser.mul u f) (F.ser.mul v g) = h ∧ F.Dv h f ∧ F.Dv h g := by
  have hgp := Dg.pl F hg
  obtain ⟨e, ⟨u, v, hu, hv, he⟩, hl⟩ := exists_least (P := fun e => ∃ u v, F.Pl u ∧ F.Pl v ∧ F.Dg (F.ser.add (F.ser.mul u f) (F.ser.mul v g)) e) d ⟨F.ser.zero, F.ser.one, Pl.zero F, Pl.one F, by rw [F.ser.zero_mul, F.ser.zero_add, F.ser.one_mul]; exact hg⟩
  have hed : e ≤ d := by
    apply Classical.byContradiction
    intro hc
    exact hl d (by omega) ⟨F.ser.zero, F.ser.one, Pl.zero F, Pl.one F, by rw [F.ser.zero_mul, F.ser.zero_add, F.ser.one_mul]; exact hg⟩
  obtain ⟨h, hh⟩ : ∃ h, F.ser.add (F.ser.mul u f) (F.ser.mul v g) = h := ⟨_, rfl⟩
  rw [hh] at he
  have key : ∀ u' v', F.Pl u' → F.Pl v' → F.Dv h (F.ser.add (F.ser.mul u' f) (F.ser.mul v' g)) := fun u' v' hu' hv' => by
    obtain ⟨s, r, hs, hr, e1⟩ := F.divide_pl hI he (Pl.add F (Pl.mul F hu' hf) (Pl.mul F hv' hgp))
    by_cases hr0 : r = F.ser.zero
    · exact ⟨s, hs, by rw [e1, hr0, F.ser.add_zero]⟩
    · exfalso
      obtain ⟨e', he', hde⟩ := F.dg_exists hr hr0
      refine hl e' he' ⟨F.ser.add u' (F.ser.neg (F.ser.mul s u)), F.ser.add v' (F.ser.neg (F.ser.mul s v)), Pl.add F hu' (Pl.neg F (Pl.mul F hs hu)), Pl.add F hv' (Pl.neg F (Pl.mul F hs hv)), ?_⟩
      have e2 : F.ser.add (F.ser.mul (F.ser.add u' (F.ser.neg (F.ser.mul s u))) f) (F.ser.mul (F.ser.add v' (F.ser.neg (F.ser.mul s v))) g) = r := by
        have n1 : ∀ a b, F.ser.mul (F.ser.neg a) b = F.ser.neg (F.ser.mul a b) := fun a b => by rw [F.ser.mul_comm, F.ser.mul_neg, F.ser.mul_comm]
        have n2 : ∀ a b, F.ser.add (F.ser.neg a) (F.ser.neg b) = F.ser.neg (F.ser.add a b) := fun a b => by
          refine F.ser.neg_unique ?_
          rw [F.ser.add4, F.ser.add_neg, F.ser.add_neg, F.ser.add_zero]
        rw [F.ser.add_mul, F.ser.add_mul, n1, n1, F.ser.add4, n2, F.ser.mul_assoc, F.ser.mul_assoc, ← F.ser.mul_add, hh, e1, F.ser.add_comm _ r, F.ser.add_assoc, F.ser.add_neg, F.ser.add_zero]
      rw [e2]
      exact hde
  have h1 : F.Dv h f := by
    have := key F.ser.one F.ser.zero (Pl.one F) (Pl.zero F)
    rw [F.ser.one_mul, F.ser.zero_mul, F.ser.add_zero] at this
    exact this
  have h2 : F.Dv h g := by
    have := key F.ser.zero F.ser.one (Pl.zero F) (Pl.one F)
    rw [F.ser.one_mul, F.ser.zero_mul, F.ser.zero_add] at this
    exact this
  exact ⟨h, e, u, v, hed, he, hu, hv, hh, h1, h2⟩
/-- The degree of a divisor; its cofactor. -/
theorem Dv.cof {h p : Nat → α} {e n : Nat} (hh : F.Dg h e) (hp : F.Dg p n) (hd : F.Dv h p) : ∃ s m, F.Dg s m ∧ p = F.ser.mul s h ∧ n = m + e := by
  obtain ⟨s, ⟨k, hs⟩, rfl⟩ := hd
  have hs0 : s ≠ F.ser.zero := fun e2 => Dg.ne F hp (by rw [e2, F.ser.zero_mul])
  obtain ⟨m, _, hm⟩ := F.dg_exists hs hs0
  exact ⟨s, m, hm, rfl, Dg.uniq F hp (Dg.mul F hm hh)⟩
theorem Dv.deg {h p : Nat → α} {e n : Nat} (hh : F.Dg h e) (hp : F.Dg p n) (hd : F.Dv h p) : e ≤ n := by
  obtain ⟨s, m, _, _, rfl⟩ := Dv.cof F hh hp hd
  omega
/-- Every polynomial that is no constant has an irreducible factor. -/
theorem factor {p : Nat → α} {n : Nat} (hp : F.Dg p n) (hn : 1 ≤ n) : ∃ g d, F.Ird g d ∧ d ≤ n ∧ F.Dv g p := by
  obtain ⟨d, ⟨h1, g, hg, hd⟩, hl⟩ := exists_least (P := fun d => 1 ≤ d ∧ ∃ g, F.Dg g d ∧ F.Dv g p) n ⟨hn, p, hp, Dv.self F p⟩
  refine ⟨g, d, ⟨hg, h1, fun h e he hv => ?_⟩, Dv.deg F hg hp hd, hd⟩
  by_cases e0 : e = 0
  · exact .inl e0
  · right
    have hle := Dv.deg F he hg hv
    by_cases hlt : e < d
    · exact absurd ⟨by omega, h, he, Dv.trans F hv hd⟩ (hl e hlt)
    · omega
/-- A polynomial that is not irreducible is a product. -/
theorem split {p : Nat → α} {n : Nat} (hp : F.Dg p n) (hn : 1 ≤ n) (hno : ¬ F.Ird p n) : ∃ a b k m, F.Dg a k ∧ F.Dg b m ∧ 1 ≤ k ∧ 1 ≤ m ∧ n = k + m ∧ p = F.ser.mul a b := by
  have : ∃ h e, F.Dg h e ∧ F.Dv h p ∧ e ≠ 0 ∧ e ≠ n := by
    apply Classical.byContradiction
    intro hc
    refine hno ⟨hp, hn, fun h e he hv => ?_⟩
    by_cases e0 : e = 0
    · exact .inl e0
    · by_cases e1 : e = n
      · exact .inr e1
      · exact absurd ⟨h, e, he, hv, e0, e1⟩ hc
  obtain ⟨h, e, he, hv, e0, e1⟩ := this
  obtain ⟨s, m, hm, ep, en⟩ := Dv.cof F he hp hv
  exact ⟨s, h, m, e, hm, he, by omega, by omega, en, ep⟩
theorem factor_half {p : Nat → α} {n : Nat} (hp : F.Dg p n) (hn : 1 ≤ n) (hno : ¬ F.Ird p n) : ∃ g d, F.Ird g d ∧ 2 * d ≤ n ∧ F.Dv g p := by
  obtain ⟨a, b, k, m, ha, hb, hk, hm, en, rfl⟩ := F.split hp hn hno
  by_cases h : k ≤ m
  · obtain ⟨g, d, hg, hd, hv⟩ := F.factor ha hk
    refine ⟨g, d, hg, by omega, ?_⟩
    rw [F.ser.mul_comm]
    exact Dv.mul F hv (Dg.pl F hb)
  · obtain ⟨g, d, hg, hd, hv⟩ := F.factor hb hm
    exact ⟨g, d, hg, by omega, Dv.mul F hv (Dg.pl F ha)⟩
end Dom
end FFld
end Go.Proofs.Ytfhhnfpapgfnmaa

set_option linter.unusedVariables false
set_option linter.unusedSimpArgs false
set_option linter.unusedSectionVars false
namespace Go.Proofs.Ytfhhnfpapgfnmaa
namespace FFld
/-- The prime p is 0 in the domain. -/
structure Chr {α : Type} (F : Dom α) (p : Nat) : Prop where
  prime : Prime p
  small : p ≤ 65536
  zero : F.nm p = F.zero
section
variable {α : Type} {F : Dom α} {p : Nat}
theorem Chr.mod (h : Chr F p) (n : Nat) : F.nm n = F.nm (n % p) := by
  conv => lhs; rw [← Nat.div_add_mod n p]
  rw [F.nm_add, F.nm_mul, h.zero, F.zero_mul, F.zero_add]
theorem nm_gcd : ∀ (m n : Nat), F.nm m = F.zero → F.nm n = F.zero → F.nm (Nat.gcd m n) = F.zero := by
  intro m
  induction m using Nat.strongRecOn with
  | ind m ih =>
    intro n hm hn
    rcases Nat.eq_zero_or_pos m with h | h
    · subst h
      rw [Nat.gcd_zero_left]
      exact hn
    · rw [Nat.gcd_rec]
      refine ih _ (Nat.mod_lt _ h) _ ?_ hm
      rw [← Nat.div_add_mod n m, F.nm_add, F.nm_mul, hm, F.zero_mul, F.zero_add] at hn
      exact hn
theorem Chr.ne (h : Chr F p) {n : Nat} (hn : ¬ p ∣ n) : F.nm n ≠ F.zero := fun e => by
  have := nm_gcd p n h.zero e
  have hc : Nat.gcd p n = 1 := h.prime.coprime hn
  rw [hc, F.nm_one] at this
  exact F.one_ne this
theorem Chr.inj (h : Chr F p) {i j : Nat} (hi : i < p) (hj : j < p) (e : F.nm i = F.nm j) : i = j := by
  have key : ∀ i j, i < j → j < p → F.nm i ≠ F.nm j := fun i j hij hjp e => by
    obtain ⟨d, rfl⟩ : ∃ d, j = i + d := ⟨j - i, by omega⟩
    rw [F.nm_add] at e
    have e2 : F.nm d = F.zero := by
      refine F.add_left_cancel (a := F.nm i) ?_
      rw [← e, F.add_zero]
    exact h.ne (fun hd => by have := Nat.le_of_dvd (by omega) hd; omega) e2
  rcases Nat.lt_trichotomy i j with h1 | h1 | h1
  · exact absurd e (key i j h1 hj)
  · exact h1
  · exact absurd e.symm (key j i h1 hi)
/-- The p-th power of a sum. -/
theorem Chr.frob (h : Chr F p) (x y : α) : F.pow (F.add x y) p = F.add (F.pow x p) (F.pow y p) := by
  have hp2 := h.prime.1
  by_cases h0 : y = F.zero
  · subst h0
    rw [F.zero_pow (by omega), F.add_zero, F.add_zero]
  · refine F.add_pow_all y (by omega) ((List.range p).map fun i => F.mul (F.nm i) y) (nodup_map_on List.nodup_range fun i hi j hj e => ?_) (by simp) (fun r hr => ?_) x
    · exact h.inj (List.mem_range.1 hi) (List.mem_range.1 hj) (F.mul_left_cancel h0 (by rw [F.mul_comm y, F.mul_comm y]; exact e))
    · obtain ⟨i, hi, rfl⟩ := List.mem_map.1 hr
      have p1 : ∀ i, F.pow (F.nm i) p = F.nm i := fun i => by
        rw [h.mod i, ← F.nm_pow, h.mod (_ ^ _), fermat_nat h.prime h.small _ (Nat.mod_lt _ (by omega))]
      have e : F.add (F.mul (F.nm i) y) y = F.mul (F.nm (i + 1)) y := by
        show _ = F.mul (F.add (F.nm i) F.one) y
        rw [F.add_mul, F.one_mul]
      rw [e, F.mul_pow, F.mul_pow, p1, p1]
      show F.mul (F.add (F.nm i) F.one) _ = _
      rw [F.add_mul, F.one_mul]
theorem ser_nm : ∀ n, F.ser.nm n = F.mon1 (F.nm n) 0
  | 0 => emb_ser.zero.symm
  | n + 1 => by
    show F.ser.add (F.ser.nm n) F.ser.one = _
    rw [ser_nm n]
    exact (emb_ser.add (F.nm n) F.one).symm
theorem Chr.ser (h : Chr F p) : Chr F.ser p := ⟨h.prime, h.small, by rw [ser_nm, h.zero]; exact emb_ser.zero⟩
theorem xpow (f : Nat → α) : ∀ (k n : Nat), F.ser.mul (F.ser.pow (xx F) k) f n = if n < k then F.zero else f (n - k)
  | 0, n => by
    rw [Dom.pow_zero, F.ser.one_mul, if_neg (Nat.not_lt_zero n)]
    rfl
  | k + 1, n => by
    rw [Dom.pow_succ, F.ser.mul_assoc, F.ser.mul_comm (xx F) f, F.ser.mul_comm f (xx F), xpow (F.ser.mul (xx F) f) k n]
    by_cases h : n < k
    · rw [if_pos h, if_pos (by omega)]
    · rw [if_neg h, xx_mul]
      by_cases h2 : n - k = 0
      · rw [if_pos h2, if_pos (by omega)]
      · rw [if_neg h2, if_neg (by omega)]
        congr 1
/-- The p-th power of a polynomial. -/
theorem Chr.pow_p (h : Chr F p) : ∀ (m : Nat) (f : Nat → α), F.Sh f m → ∀ i, F.ser.pow f p i = if p ∣ i then F.pow (f (i / p)) p else F.zero
  | 0, f, hf, i => by
    have hp2 := h.prime.1
    have e : f = F.ser.zero := funext fun i => hf i (Nat.zero_le i)
    have e2 : f (i / p) = F.zero := hf _ (Nat.zero_le _)
    rw [e2, F.zero_pow (by omega), e, F.ser.zero_pow (by omega)]
    show F.zero = _
    split <;> rfl
  | m + 1, f, hf, i => by
    have hp2 := h.prime.1
    have ih := h.pow_p m (fun i => f (i + 1)) fun i hi => hf _ (by omega)
    have e := split_x (F := F) f
    have hp : F.ser.pow f p = F.ser.add (F.mon1 (F.pow (f 0) p) 0) (F.ser.mul (F.ser.pow (xx F) p) (F.ser.pow (fun i => f (i + 1)) p)) := by
      conv => lhs; rw [e]
      rw [h.ser.frob, F.ser.mul_pow, ← emb_ser.pow]
    rw [hp]
    show F.add (F.mon1 (F.pow (f 0) p) 0 i) (F.ser.mul (F.ser.pow (xx F) p) (F.ser.pow (fun i => f (i + 1)) p) i) = _
    rw [xpow]
    unfold Dom.mon1
    by_cases h0 : i = 0
    · subst h0
      rw [if_pos rfl, if_pos (by omega), if_pos (Nat.dvd_zero p), Nat.zero_div, F.add_zero]
    · rw [if_neg h0, F.zero_add]
      by_cases h1 : i < p
      · rw [if_pos h1, if_neg (fun hd => by have := Nat.le_of_dvd (by omega) hd; omega)]
      · rw [if_neg h1, ih]
        obtain ⟨j, rfl⟩ : ∃ j, i = j + p := ⟨i - p, by omega⟩
        rw [Nat.add_sub_cancel, Nat.add_div_right _ (by omega)]
        by_cases h2 : p ∣ j
        · rw [if_pos h2, if_pos ((Nat.dvd_add_left (Nat.dvd_refl p)).2 h2)]
        · rw [if_neg h2, if_neg (fun hd => h2 ((Nat.dvd_add_left (Nat.dvd_refl p)).1 hd))]
theorem Dg_pow {f : Nat → α} {n : Nat} (hf : F.Dg f n) : ∀ k, F.Dg (F.ser.pow f k) (k * n)
  | 0 => by
    rw [Nat.zero_mul]
    refine ⟨F.one_sh, ?_⟩
    show F.one1 0 ≠ _
    unfold Dom.one1
    rw [if_pos rfl]
    exact F.one_ne
  | k + 1 => by
    rw [Dom.pow_succ, Nat.succ_mul]
    exact Dom.Dg.mul F (Dg_pow hf k) hf
/-- A polynomial whose derivative is 0 is a p-th power. -/
theorem Chr.der_zero (h : Chr F p) (hr : ∀ a, ∃ b, F.pow b p = a) {f : Nat → α} {n : Nat} (hf : F.Dg f n) (hd : F.der f = F.ser.zero) : ¬ F.Ird f n := fun hi => by
  have hp2 := h.prime.1
  obtain ⟨r, hr⟩ : ∃ r : α → α, ∀ a, F.pow (r a) p = a := ⟨fun a => Classical.choose (hr a), fun a => Classical.choose_spec (hr a)⟩
  have hr0 : r F.zero = F.zero := Classical.byContradiction fun hne => F.pow_ne hne p (hr _)
  have hsh : F.Sh (fun i => r (f (i * p))) (n + 1) := fun i hi => by
    show r (f (i * p)) = _
    rw [hf.1 (i * p) (Nat.le_trans hi (Nat.le_mul_of_pos_right _ (by omega))), hr0]
  have e : F.ser.pow (fun i => r (f (i * p))) p = f := by
    funext i
    rw [h.pow_p _ _ hsh]
    by_cases hdv : p ∣ i
    · rw [if_pos hdv, hr, Nat.div_mul_cancel hdv]
    · rw [if_neg hdv]
      obtain ⟨j, rfl⟩ : ∃ j, i = j + 1 := ⟨i - 1, by have : i ≠ 0 := fun e => hdv (e ▸ Nat.dvd_zero p); omega⟩
      have h1 : F.mul (F.nm (j + 1)) (f (j + 1)) = F.zero := congrFun hd j
      rcases F.nzd _ _ h1 with h2 | h2
      · exact absurd h2 (h.ne hdv)
      · exact h2.symm
  have hne : (fun i => r (f (i * p))) ≠ F.ser.zero := fun e2 => Dom.Dg.ne F hf (by rw [← e, e2, F.ser.zero_pow (by omega)])
  obtain ⟨m, _, hm⟩ := F.dg_exists hsh hne
  have hpw := Dg_pow hm p
  rw [e] at hpw
  have en := Dom.Dg.uniq F hf hpw
  have hdv : F.Dv (fun i => r (f (i * p))) f := by
    refine ⟨F.ser.pow (fun i => r (f (i * p))) (p - 1), Dom.Dg.pl F (Dg_pow hm (p - 1)), ?_⟩
    rw [← Dom.pow_succ, Nat.sub_add_cancel (by omega), e]
  have h1 := hi.pos
  rcases hi.only _ m hm hdv with h2 | h2
  · rw [h2, Nat.mul_zero] at en
    omega
  · have : 2 * m ≤ p * m := Nat.mul_le_mul_right m hp2
    omega
end
end FFld
end Go.Proofs.Ytfhhnfpapgfnmaa

set_option linter.unusedVariables false
set_option linter.unusedSimpArgs false
set_option linter.unusedSectionVars false
namespace Go.Proofs.Ytfhhnfpapgfnmaa
namespace FFld
section
variable {α : Type} {F : Dom α} {E : List α} {p n : Nat} {f : Nat → α}
theorem dv_back (hI : F.Inv) {h g : Nat → α} (hh : F.Dg h n) (hg : F.Dg g n) (hd : F.Dv h g) : F.Dv g h := by
  obtain ⟨s, m, hm, es, en⟩ := Dom.Dv.cof F hh hg hd
  have hm0 : m = 0 := by omega
  subst hm0
  obtain ⟨w, hw, ew⟩ := F.const_inv hI hm
  exact ⟨w, hw, by rw [es, ← F.ser.mul_assoc, ew, F.ser.one_mul]⟩
/-- Irreducible: no common divisor with x^(q^d) - x, for d up to half the degree. -/
theorem ird_ref (hI : F.Inv) (hE : Els F E) (hq : 2 ≤ E.length) (hf : F.Dg f n) (hn : 1 ≤ n) : F.Ird f n ↔ ∀ d, 1 ≤ d → 2 * d ≤ n → ∀ h e, F.Dg h e → F.Dv h f → Eqv F h (F.ser.pow (xx F) (E.length ^ d)) (xx F) → e = 0 := by
  constructor
  · intro hi d hd hd2 h e he hv hx
    rcases hi.only h e he hv with h1 | h1
    · exact h1
    · exfalso
      subst h1
      exact ird_no hI hE hq hi hd (by omega) (Dom.Dv.trans F (dv_back hI he hf hv) hx)
  · intro hall
    apply Classical.byContradiction
    intro hno
    obtain ⟨g, d, hg, hd, hv⟩ := F.factor_half hf hn hno
    have h1 := hall d hg.pos hd g d hg.dg hv (pow_eqv hI hg hE.nodup hE.mem xx_pl)
    have h2 := hg.pos
    omega
/-- Modulo an irreducible polynomial only the constants are their own q-th powers. -/
theorem fixed_const (hI : F.Inv) (hE : Els F E) (hq : 2 ≤ E.length) (hi : F.Ird f n) {h : Nat → α} (hh : F.Sh h n) (hx : Eqv F f (F.ser.pow h E.length) h) : ∃ c, h = F.mon1 c 0 := by
  haveI : DecidableEq (Res F n) := fun a b => Classical.propDecidable (a = b)
  apply Classical.byContradiction
  intro hno
  obtain ⟨cr, hcr⟩ : ∃ cr : α → Res F n, ∀ c, (cr c).1 = F.mon1 c 0 := ⟨fun c => ⟨F.mon1 c 0, Dom.Sh.mono F (F.mon1_sh c 0) hi.pos⟩, fun _ => rfl⟩
  have hpow : (quo hI hi).pow ⟨h, hh⟩ E.length = ⟨h, hh⟩ := Subtype.ext (Eqv.eq hi.dg (res_sh _) hh (Eqv.trans (quo_pow hI hi ⟨h, hh⟩ _).1.symm hx))
  have hcp : ∀ c, (quo hI hi).pow (cr c) E.length = cr c := fun c => Subtype.ext (by
    refine Eqv.eq hi.dg (res_sh _) (res_sh _) (Eqv.trans (quo_pow hI hi (cr c) _).1.symm ?_)
    have e : F.ser.pow (F.mon1 c 0) E.length = F.mon1 c 0 := by rw [← emb_ser.pow, hE.pow]
    rw [hcr, e]
    exact Eqv.refl _)
  have hnd : ((⟨h, hh⟩ : Res F n) :: E.map cr).Nodup := by
    refine List.nodup_cons.2 ⟨fun hm => ?_, nodup_map_on hE.nodup fun a _ b _ e => ?_⟩
    · obtain ⟨c, _, e⟩ := List.mem_map.1 hm
      exact hno ⟨c, by rw [← hcr c, e]⟩
    · have := congrArg Subtype.val e
      rw [hcr, hcr] at this
      exact emb_ser.inj _ _ this
  have hz : (quo hI hi).zero ∈ (⟨h, hh⟩ : Res F n) :: E.map cr := by
    refine List.mem_cons_of_mem _ (List.mem_map.2 ⟨F.zero, hE.mem _, Subtype.ext ?_⟩)
    rw [hcr]
    exact emb_ser.zero
  have hone : ∀ a ∈ ((⟨h, hh⟩ : Res F n) :: E.map cr).erase (quo hI hi).zero, (quo hI hi).pow a (E.length - 1) = (quo hI hi).one := fun a ha => by
    obtain ⟨hne, hm⟩ := hnd.mem_erase_iff.1 ha
    have e : (quo hI hi).pow a E.length = a := by
      rcases List.mem_cons.1 hm with h1 | h1
      · rw [h1]
        exact hpow
      · obtain ⟨c, _, rfl⟩ := List.mem_map.1 h1
        exact hcp c
    rw [show E.length = E.length - 1 + 1 by omega, Dom.pow_succ] at e
    refine Dom.mul_left_cancel _ hne ?_
    rw [Dom.mul_comm, e, Dom.mul_one]
  have h1 := Dom.roots_pow (quo hI hi) (n := E.length - 1) (by omega) _ (hnd.erase _) hone
  rw [List.length_erase_of_mem hz, List.length_cons, List.length_map] at h1
  omega
/-- Modulo a product of coprime polynomials there is another one. -/
theorem fixed_more {a b u v : Nat → α} {k m : Nat} (ha : F.Dg a k) (hb : F.Dg b m) (hk : 1 ≤ k) (hm : 1 ≤ m) (hu : F.Pl u) (hv : F.Pl v) (huv : F.ser.add (F.ser.mul u a) (F.ser.mul v b) = F.ser.one) : ∃ h, F.Pl h ∧ (∀ q, Eqv F (F.ser.mul a b) (F.ser.pow h (q + 1)) h) ∧ ∀ c, ¬ Eqv F (F.ser.mul a b) h (F.mon1 c 0) := by
  have hap := Dom.Dg.pl F ha
  have hbp := Dom.Dg.pl F hb
  obtain ⟨h, hh⟩ : ∃ h, F.ser.mul u a = h := ⟨_, rfl⟩
  have hp : F.Pl h := hh ▸ Dom.Pl.mul F hu hap
  rw [hh] at huv
  have hX : F.ser.mul h (F.ser.mul v b) = F.ser.mul (F.ser.mul u v) (F.ser.mul a b) := by
    rw [← hh, F.ser.mul_assoc, F.ser.mul_assoc, ← F.ser.mul_assoc a, F.ser.mul_comm a v, F.ser.mul_assoc v]
  have hid : Eqv F (F.ser.mul a b) (F.ser.mul h h) h := by
    apply Eqv.symm
    refine ⟨F.ser.mul u v, Dom.Pl.mul F hu hv, ?_⟩
    have e : F.ser.add (F.ser.mul h h) (F.ser.mul h (F.ser.mul v b)) = h := by rw [← F.ser.mul_add, huv, F.ser.mul_one]
    rw [← hX]
    conv => lhs; lhs; rw [← e]
    rw [F.ser.add_comm (F.ser.mul h h), F.ser.add_assoc, F.ser.add_neg, F.ser.add_zero]
  have hpw : ∀ q, Eqv F (F.ser.mul a b) (F.ser.pow h (q + 1)) h := fun q => by
    induction q with
    | zero => rw [Nat.zero_add, F.ser.pow_one]; exact Eqv.refl _
    | succ q ih =>
      rw [Dom.pow_succ]
      exact Eqv.trans (Eqv.mul hp hp ih (Eqv.refl h)) hid
  refine ⟨h, hp, hpw, fun c hc => ?_⟩
  have z1 : Eqv F a h F.ser.zero := by
    show F.Dv a (F.ser.add h (F.ser.neg F.ser.zero))
    rw [F.ser.neg_zero, F.ser.add_zero]
    exact ⟨u, hu, hh.symm⟩
  have z2 : Eqv F b h F.ser.one := by
    apply Eqv.symm
    refine ⟨v, hv, ?_⟩
    rw [← huv, F.ser.add_comm h, F.ser.add_assoc, F.ser.add_neg, F.ser.add_zero]
  have c1 : Eqv F a h (F.mon1 c 0) := Dom.Dv.trans F ⟨b, hbp, F.ser.mul_comm _ _⟩ hc
  have c2 : Eqv F b h (F.mon1 c 0) := Dom.Dv.trans F ⟨a, hap, rfl⟩ hc
  have e1 := Eqv.eq ha (Dom.Sh.mono F (F.mon1_sh c 0) hk) (fun _ _ => rfl) (Eqv.trans c1.symm z1)
  have e2 := Eqv.eq hb (Dom.Sh.mono F (F.mon1_sh c 0) hm) (Dom.Sh.mono F F.one_sh hm) (Eqv.trans c2.symm z2)
  exact F.ser.one_ne (e2.symm.trans e1)
/-- Irreducible: prime to the derivative, and only the constants are their own q-th powers (Berlekamp). -/
theorem ird_prog (hI : F.Inv) (hE : Els F E) (hq : 2 ≤ E.length) (hc : Chr F p) (hr : ∀ a, ∃ b, F.pow b p = a) (hf : F.Dg f n) (hn : 1 ≤ n) : F.Ird f n ↔ (∀ h e, F.Dg h e → F.Dv h f → F.Dv h (F.der f) → e = 0) ∧ (∀ h, F.Sh h n → Eqv F f (F.ser.pow h E.length) h → ∃ c, h = F.mon1 c 0) := by
  constructor
  · intro hi
    refine ⟨fun h e he hv hd => ?_, fun h hh hx => fixed_const hI hE hq hi hh hx⟩
    rcases hi.only h e he hv with h1 | h1
    · exact h1
    · exfalso
      subst h1
      exact hc.der_zero hr hf (Dom.Dv.small F he hd (F.der_sh hf.1)) hi
  · rintro ⟨h1, h2⟩
    apply Classical.byContradiction
    intro hno
    obtain ⟨a, b, k, m, ha, hb, hk, hm, en, rfl⟩ := F.split hf hn hno
    have hap := Dom.Dg.pl F ha
    have hbp := Dom.Dg.pl F hb
    obtain ⟨h, e, u, v, _, he, hu, hv, hh, d1, d2⟩ := F.gcd_exists hI hap hb
    have e0 := h1 h e he (Dom.Dv.mul F d2 hap) (F.sq_der hap hbp d1 d2)
    subst e0
    obtain ⟨w, hw, ew⟩ := F.const_inv hI he
    obtain ⟨y, hy, hy1, hy2⟩ := fixed_more (u := F.ser.mul w u) (v := F.ser.mul w v) ha hb hk hm (Dom.Pl.mul F hw hu) (Dom.Pl.mul F hw hv) (by rw [F.ser.mul_assoc, F.ser.mul_assoc, ← F.ser.mul_add, hh, ew])
    have hre := rem_eqv hI hf y hy
    obtain ⟨r, hrr⟩ : ∃ r, rem hI hf y hy = r := ⟨_, rfl⟩
    rw [hrr] at hre
    have hy3 := hy1 (E.length - 1)
    rw [Nat.sub_add_cancel (by omega)] at hy3
    obtain ⟨c, e⟩ := h2 r.1 r.2 (Eqv.trans (Eqv.pow (res_pl r) hy hre.symm E.length).1 (Eqv.trans hy3 hre))
    rw [e] at hre
    exact hy2 c hre
end
end FFld
end Go.Proofs.Ytfhhnfpapgfnmaa

set_option linter.unusedVariables false
set_option linter.unusedSimpArgs false
set_option linter.unusedSectionVars false
namespace Go.Proofs.Ytfhhnfpapgfnmaa
namespace FFld
theorem mon_mul {α : Type} (F : Dom α) (a : α) (s : Nat) (g : Nat → α) (n : Nat) : F.ser.mul (F.mon1 a s) g n = if n < s then F.zero else F.mul a (g (n - s)) := by
  show F.cv (F.mon1 a s) g n = _
  unfold Dom.cv Dom.mon1
  by_cases h : n < s
  · rw [if_pos h]
    exact F.sm_zero _ fun i hi => by rw [if_neg (by omega), F.zero_mul]
  · rw [if_neg h, F.sm_one (j := s) _ (by omega) fun i _ hne => by rw [if_neg hne, F.zero_mul], if_pos rfl]
theorem Eqv.dv {α : Type} {F : Dom α} {b x y g : Nat → α} (h : Eqv F b x y) (hb : F.Dv g b) (hx : F.Dv g x) : F.Dv g y := by
  have e : F.ser.add x (F.ser.neg (F.ser.add x (F.ser.neg y))) = y := by
    refine F.ser.add_left_cancel (a := F.ser.add x (F.ser.neg y)) ?_
    rw [← F.ser.add_assoc, F.ser.add_comm _ x, F.ser.add_assoc, F.ser.add_neg, F.ser.add_zero, F.ser.add_assoc, F.ser.add_comm (F.ser.neg y), F.ser.add_neg, F.ser.add_zero]
  rw [← e]
  exact Dom.Dv.add F hx (Dom.Dv.neg F (Dom.Dv.trans F hb h))
section
variable {D : FD} (hD : D.Ok)
/-- A list of coefficients as a power series. -/
def serL (l : List Nat) : Nat → El (D.p ^ D.k) := fun i => toE hD.pre.pk (l[i]?.getD 0)
theorem serL_sh (l : List Nat) : (FD.dom hD.nzd).Sh (serL hD l) l.length := fun i hi => by
  show toE hD.pre.pk (l[i]?.getD 0) = _
  rw [List.getElem?_eq_none hi]
  exact toE_zero hD
theorem serL_pl (l : List Nat) : (FD.dom hD.nzd).Pl (serL hD l) := ⟨_, serL_sh hD l⟩
theorem serL_dg {l : List Nat} (hl : ∀ a ∈ l, a < D.p ^ D.k) (h0 : l.length ≠ 0) (ht : Tz l) : (FD.dom hD.nzd).Dg (serL hD l) (l.length - 1) := by
  have hp := Nat.pow_pos (n := D.k) hD.pre.pk.p0
  exact ⟨fun i hi => serL_sh hD l i (by omega), fun e => ht.top h0 (toE_inj hD.pre.pk (getD_lt hp hl _) hp (Eq.trans e (toE_zero hD).symm))⟩
theorem serL_nil {l : List Nat} (h : l.length = 0) : serL hD l = (FD.dom hD.nzd).ser.zero := funext fun i => serL_sh hD l i (by omega)
theorem serL_addm {xs q : List Nat} {c s : Nat} (hx : ∀ a ∈ xs, a < D.p ^ D.k) (hq : ∀ a ∈ q, a < D.p ^ D.k) (hc : c < D.p ^ D.k) (hl : s + q.length ≤ xs.length) : serL hD (addm D xs s q c) = (FD.dom hD.nzd).ser.add (serL hD xs) ((FD.dom hD.nzd).ser.mul ((FD.dom hD.nzd).mon1 (toE hD.pre.pk c) s) (serL hD q)) := by
  have hp := Nat.pow_pos (n := D.k) hD.pre.pk.p0
  have hk := hD.pre.pk
  funext n
  show toE hD.pre.pk ((addm D xs s q c)[n]?.getD 0) = (FD.dom hD.nzd).add (toE hD.pre.pk (xs[n]?.getD 0)) ((FD.dom hD.nzd).ser.mul ((FD.dom hD.nzd).mon1 (toE hD.pre.pk c) s) (serL hD q) n)
  rw [mon_mul]
  by_cases h1 : n < s
  · rw [if_pos h1, (FD.dom hD.nzd).add_zero]
    unfold addm
    rw [addmF_old _ _ _ _ _ _ _ (.inl h1)]
  · rw [if_neg h1]
    obtain ⟨i, rfl⟩ : ∃ i, n = s + i := ⟨n - s, by omega⟩
    rw [Nat.add_sub_cancel_left]
    by_cases h2 : i < q.length
    · rw [addm_at D xs s q c h2 hl, toE_add hD (getD_lt hp hx _) (pmul_lt hk _ _ _), toE_mul hD (getD_lt hp hq _) hc, (FD.dom hD.nzd).mul_comm]
      rfl
    · have e : serL hD q i = (FD.dom hD.nzd).zero := serL_sh hD q i (by omega)
      rw [e, (FD.dom hD.nzd).mul_zero, (FD.dom hD.nzd).add_zero]
      unfold addm
      rw [addmF_old _ _ _ _ _ _ _ (.inr (by omega))]
theorem serL_divF {ql pl : List Nat} {inv n : Nat} (hq : ∀ a ∈ ql, a < D.p ^ D.k) (hp : ∀ a ∈ pl, a < D.p ^ D.k) (hn : n + ql.length = pl.length + 1) (h1 : 1 ≤ ql.length) : ∀ t, t ≤ n → Eqv (FD.dom hD.nzd) (serL hD ql) (serL hD pl) (serL hD (divF D ql inv n pl t))
  | 0, _ => Eqv.refl _
  | t + 1, ht => by
    have hk := hD.pre.pk
    refine Eqv.trans (serL_divF (inv := inv) hq hp hn h1 t (by omega)) ?_
    apply Eqv.symm
    have e : divF D ql inv n pl (t + 1) = addm D (divF D ql inv n pl t) (n - 1 - t) ql (pscl D.p D.k (D.p - 1) (divQ D ql inv n pl t)) := rfl
    rw [e, serL_addm hD (divF_lt hk _ _ _ _ hp) hq (pscl_lt hk _ _) (by rw [divF_len]; omega)]
    refine ⟨(FD.dom hD.nzd).mon1 (toE hD.pre.pk (pscl D.p D.k (D.p - 1) (divQ D ql inv n pl t))) (n - 1 - t), ⟨_, (FD.dom hD.nzd).mon1_sh _ _⟩, ?_⟩
    rw [(FD.dom hD.nzd).ser.add_comm (serL hD (divF D ql inv n pl t)), (FD.dom hD.nzd).ser.add_assoc, (FD.dom hD.nzd).ser.add_neg, (FD.dom hD.nzd).ser.add_zero]
theorem serL_trm (l : List Nat) : serL hD (trm l) = serL hD l := by
  funext i
  show toE hD.pre.pk ((trm l)[i]?.getD 0) = toE hD.pre.pk (l[i]?.getD 0)
  congr 1
  by_cases h : i < trmN l l.length
  · unfold trm
    rw [take_getD h]
  · rw [List.getElem?_eq_none (by rw [trm_len]; omega)]
    by_cases h2 : i < l.length
    · rw [trmN_zero l l.length i (by omega) h2]
      rfl
    · rw [List.getElem?_eq_none (by omega)]
/-- The rest of a division. -/
theorem rst_eqv {ql pl : List Nat} (inv : Nat) (hq : ∀ a ∈ ql, a < D.p ^ D.k) (hp : ∀ a ∈ pl, a < D.p ^ D.k) (h1 : 1 ≤ ql.length) : Eqv (FD.dom hD.nzd) (serL hD ql) (serL hD pl) (serL hD (rstF D ql inv pl)) := by
  unfold rstF
  split
  · exact Eqv.refl _
  · rw [serL_trm]
    exact serL_divF hD hq hp (by omega) h1 _ (Nat.le_refl _)
/-- Euclid's way keeps the common divisors. -/
theorem cmn_dv {N : Nat} {pl ql : List Nat} (h : CmOk D N (pl, ql)) (g : Nat → El (D.p ^ D.k)) : ∀ i, (∀ j, j < i → (cmnS D hD.pre.pk pl ql j).2.length ≠ 0) → (((FD.dom hD.nzd).Dv g (serL hD (cmnS D hD.pre.pk pl ql i).1) ∧ (FD.dom hD.nzd).Dv g (serL hD (cmnS D hD.pre.pk pl ql i).2)) ↔ ((FD.dom hD.nzd).Dv g (serL hD pl) ∧ (FD.dom hD.nzd).Dv g (serL hD ql)))
  | 0, _ => Iff.rfl
  | i + 1, hj => by
    have ih := cmn_dv h g i fun j hji => hj j (by omega)
    have ho := cmn_ok hD h i fun j hji => hj j (by omega)
    have h0 := hj i (Nat.lt_succ_self i)
    have he := rst_eqv hD (invT D hD.pre.pk (cmnS D hD.pre.pk pl ql i).2) ho.p2 ho.p1 (by omega)
    rw [← ih]
    show ((FD.dom hD.nzd).Dv g (serL hD (cmnS D hD.pre.pk pl ql i).2) ∧ (FD.dom hD.nzd).Dv g (serL hD (rstF D (cmnS D hD.pre.pk pl ql i).2 (invT D hD.pre.pk (cmnS D hD.pre.pk pl ql i).2) (cmnS D hD.pre.pk pl ql i).1))) ↔ _
    exact ⟨fun q => ⟨Eqv.dv he.symm q.1 q.2, q.1⟩, fun q => ⟨q.2, Eqv.dv he q.2 q.1⟩⟩
/-- What Common returns is a constant just where there is no common divisor but the constants. -/
theorem CmnIs.one {N : Nat} {pl ql out : List Nat} (h : CmOk D N (pl, ql)) (h0 : pl.length ≠ 0) (hc : CmnIs D hD.pre.pk pl ql out) : out.length ≤ 1 ↔ ∀ g e, (FD.dom hD.nzd).Dg g e → (FD.dom hD.nzd).Dv g (serL hD pl) → (FD.dom hD.nzd).Dv g (serL hD ql) → e = 0 := by
  obtain ⟨i, hi, hz, rfl⟩ := hc
  have ho := cmn_ok hD h i hi
  have hdv := fun g => cmn_dv hD h g i hi
  have hap : ∀ a ∈ (cmnS D hD.pre.pk pl ql i).1, a < D.p ^ D.k := ho.p1
  have hat : Tz (cmnS D hD.pre.pk pl ql i).1 := ho.t1
  clear ho
  rw [monF_len]
  generalize (cmnS D hD.pre.pk pl ql i).1 = a at *
  generalize (cmnS D hD.pre.pk pl ql i).2 = b at *
  have hpd : (FD.dom hD.nzd).Dg (serL hD pl) (pl.length - 1) := serL_dg hD h.p1 h0 h.t1
  have hb : ∀ g, (FD.dom hD.nzd).Dv g (serL hD b) := fun g => by
    rw [serL_nil hD hz]
    exact Dom.Dv.zero _ g
  have ha0 : a.length ≠ 0 := fun e => by
    have hm : (FD.dom hD.nzd).Dg ((FD.dom hD.nzd).mon1 (FD.dom hD.nzd).one pl.length) pl.length := ⟨(FD.dom hD.nzd).mon1_sh _ _, by
      unfold Dom.mon1
      rw [if_pos rfl]
      exact (FD.dom hD.nzd).one_ne⟩
    have h1 := ((hdv ((FD.dom hD.nzd).mon1 (FD.dom hD.nzd).one pl.length)).1 ⟨by rw [serL_nil hD e]; exact Dom.Dv.zero _ _, hb _⟩).1
    have h2 := Dom.Dv.deg _ hm hpd h1
    omega
  have had := serL_dg hD hap ha0 hat
  constructor
  · intro hl g e hg h1 h2
    have h3 := Dom.Dv.deg _ hg had ((hdv g).2 ⟨h1, h2⟩).1
    have h4 : a.length - 1 = 0 := by omega
    omega
  · intro hall
    have h5 := (hdv (serL hD a)).1 ⟨Dom.Dv.self _ _, hb _⟩
    have := hall (serL hD a) (a.length - 1) had h5.1 h5.2
    omega
end
end FFld
end Go.Proofs.Ytfhhnfpapgfnmaa

set_option linter.unusedVariables false
set_option linter.unusedSimpArgs false
set_option linter.unusedSectionVars false
namespace Go.Proofs.Ytfhhnfpapgfnmaa
namespace FFld
section
variable {D : FD} (hD : D.Ok)
include hD
theorem dom_inv : (FD.dom hD.nzd).Inv := fun a ha => by
  have h1 := hD.pre.pk.one_lt
  have hl : (nzl (D.p ^ D.k)).length = (nzl (D.p ^ D.k)).length - 1 + 1 := by
    have := List.length_pos_iff.2 (List.ne_nil_of_mem (((nzl_all hD.nzd).mem a).2 ha))
    omega
  have e := (FD.dom hD.nzd).fermat (nzl_all hD.nzd) ha
  rw [hl, Dom.pow_succ] at e
  exact ⟨_, e⟩
theorem els_len : ((FD.dom hD.nzd).zero :: nzl (D.p ^ D.k)).length = D.p ^ D.k := by
  have h1 := hD.pre.pk.one_lt
  rw [List.length_cons, nzl_len]
  omega
theorem dom_els : Els (FD.dom hD.nzd) ((FD.dom hD.nzd).zero :: nzl (D.p ^ D.k)) := by
  have h1 := hD.pre.pk.one_lt
  refine ⟨List.nodup_cons.2 ⟨fun hm => ((nzl_all hD.nzd).mem _).1 hm rfl, nzl_nodup _⟩, fun a => ?_, fun a => ?_⟩
  · by_cases h0 : a = (FD.dom hD.nzd).zero
    · rw [h0]
      exact List.mem_cons_self
    · exact List.mem_cons_of_mem _ (((nzl_all hD.nzd).mem a).2 h0)
  · by_cases h0 : a = (FD.dom hD.nzd).zero
    · rw [h0]
      exact Dom.zero_pow _ (by rw [List.length_cons]; omega)
    · have e := (FD.dom hD.nzd).fermat (nzl_all hD.nzd) h0
      rw [List.length_cons, Dom.pow_succ, e, Dom.one_mul]
theorem nm_is : ∀ n, ((FD.dom hD.nzd).nm n).1 = pscl D.p D.k n 1
  | 0 => by
    rw [pscl_zero hD.pre.pk]
    exact congrArg Subtype.val (toE_zero hD).symm |>.trans (toE_val _ (Nat.pow_pos hD.pre.pk.p0))
  | n + 1 => by
    rw [pscl_sum hD.pre.pk, pscl_one hD.pre.pk 1 hD.pre.pk.one_lt, ← nm_is n]
    have e : (FD.dom hD.nzd).one.1 = 1 := (congrArg Subtype.val (toE_one hD)).symm.trans (toE_val _ hD.pre.pk.one_lt)
    show padd D.p D.k ((FD.dom hD.nzd).nm n).1 (FD.dom hD.nzd).one.1 = _
    rw [e]
theorem nm_toE (n : Nat) : toE hD.pre.pk (n % D.p) = (FD.dom hD.nzd).nm n := by
  have hk := hD.pre.pk
  have hlt : n % D.p < D.p ^ D.k := small_lt hk (Nat.mod_lt _ hk.p0)
  apply Subtype.ext
  rw [toE_val _ hlt, nm_is hD, pscl_small hk 1 n (by have := hk.p2; omega), Nat.one_mul]
theorem dom_chr : Chr (FD.dom hD.nzd) D.p := ⟨hD.pre.prime, hD.p6, by rw [← nm_toE hD, Nat.mod_self]; exact toE_zero hD⟩
theorem dom_root (a : El (D.p ^ D.k)) : ∃ b, (FD.dom hD.nzd).pow b D.p = a := by
  have hk1 := hD.pre.k1
  refine ⟨(FD.dom hD.nzd).pow a (D.p ^ (D.k - 1)), ?_⟩
  rw [← Dom.pow_mul, ← Nat.pow_succ, Nat.succ_eq_add_one, Nat.sub_add_cancel hk1]
  have := (dom_els hD).pow a
  rw [els_len hD] at this
  exact this
theorem q_two : 2 ≤ D.p ^ D.k := hD.pre.pk.one_lt
end
/-- The derivative of a list of coefficients, with the zeros at its end. -/
def derF (D : FD) (l : List Nat) : List Nat := (List.range (l.length - 1)).map fun i => pmul D.p D.k D.m (l[i + 1]?.getD 0) D.k ((i + 1) % D.p)
section
variable {D : FD} (hD : D.Ok)
theorem derF_lt (hk : PK D.p D.k D.m) (l : List Nat) : ∀ a ∈ derF D l, a < D.p ^ D.k := fun a ha => by
  obtain ⟨i, _, rfl⟩ := List.mem_map.1 ha
  exact pmul_lt hk _ _ _
theorem serL_der {l : List Nat} (hl : ∀ a ∈ l, a < D.p ^ D.k) : serL hD (derF D l) = (FD.dom hD.nzd).der (serL hD l) := by
  have hp := Nat.pow_pos (n := D.k) hD.pre.pk.p0
  funext i
  show toE hD.pre.pk ((derF D l)[i]?.getD 0) = (FD.dom hD.nzd).mul ((FD.dom hD.nzd).nm (i + 1)) (toE hD.pre.pk (l[i + 1]?.getD 0))
  by_cases h : i < l.length - 1
  · have e : (derF D l)[i]?.getD 0 = pmul D.p D.k D.m (l[i + 1]?.getD 0) D.k ((i + 1) % D.p) := by
      unfold derF
      rw [List.getElem?_map, List.getElem?_range h]
      rfl
    rw [e, toE_mul hD (getD_lt hp hl _) (small_lt hD.pre.pk (Nat.mod_lt _ hD.pre.pk.p0)), nm_toE hD, (FD.dom hD.nzd).mul_comm]
  · have e1 : (derF D l)[i]? = none := List.getElem?_eq_none (by unfold derF; rw [List.length_map, List.length_range]; omega)
    have e2 : l[i + 1]? = none := List.getElem?_eq_none (by omega)
    rw [e1, e2]
    show toE hD.pre.pk 0 = (FD.dom hD.nzd).mul _ (toE hD.pre.pk 0)
    rw [toE_zero hD, (FD.dom hD.nzd).mul_zero]
/-- The program's question and the reference's. -/
theorem irr_same {l : List Nat} (hl : ∀ a ∈ l, a < D.p ^ D.k) (ht : Tz l) (h2 : 2 ≤ l.length) :
    ((∀ h e, (FD.dom hD.nzd).Dg h e → (FD.dom hD.nzd).Dv h (serL hD l) → (FD.dom hD.nzd).Dv h ((FD.dom hD.nzd).der (serL hD l)) → e = 0) ∧ (∀ h, (FD.dom hD.nzd).Sh h (l.length - 1) → Eqv (FD.dom hD.nzd) (serL hD l) ((FD.dom hD.nzd).ser.pow h (D.p ^ D.k)) h → ∃ c, h = (FD.dom hD.nzd).mon1 c 0)) ↔
      ∀ d, 1 ≤ d → 2 * d ≤ l.length - 1 → ∀ h e, (FD.dom hD.nzd).Dg h e → (FD.dom hD.nzd).Dv h (serL hD l) → Eqv (FD.dom hD.nzd) h ((FD.dom hD.nzd).ser.pow (xx (FD.dom hD.nzd)) ((D.p ^ D.k) ^ d)) (xx (FD.dom hD.nzd)) → e = 0 := by
  have hd := serL_dg hD hl (by omega) ht
  have h1 := ird_prog (dom_inv hD) (dom_els hD) (by rw [els_len hD]; exact q_two hD) (dom_chr hD) (dom_root hD) hd (by omega)
  have h3 := ird_ref (dom_inv hD) (dom_els hD) (by rw [els_len hD]; exact q_two hD) hd (by omega)
  rw [els_len hD] at h1 h3
  exact h1.symm.trans h3
end
end FFld
end Go.Proofs.Ytfhhnfpapgfnmaa

set_option linter.unusedVariables false
set_option linter.unusedSimpArgs false
set_option linter.unusedSectionVars false
namespace Go.Proofs.Ytfhhnfpapgfnmaa
namespace FFld
section
variable {D : FD} (hD : D.Ok)
theorem serL_zeros (n : Nat) : serL hD (List.replicate n 0) = (FD.dom hD.nzd).ser.zero := by
  funext i
  show toE hD.pre.pk ((List.replicate n 0)[i]?.getD 0) = (FD.dom hD.nzd).zero
  by_cases h : i < n
  · rw [List.getElem?_replicate_of_lt h]
    exact toE_zero hD
  · rw [List.getElem?_eq_none (by rw [List.length_replicate]; omega)]
    exact toE_zero hD
/-- The first i coefficients. -/
def cutS {α : Type} (F : Dom α) (f : Nat → α) (i : Nat) : Nat → α := fun n => if n < i then f n else F.zero
theorem cutS_zero {α : Type} (F : Dom α) (f : Nat → α) : cutS F f 0 = F.ser.zero := funext fun n => if_neg (Nat.not_lt_zero n)
theorem cutS_succ {α : Type} (F : Dom α) (f : Nat → α) (i : Nat) : cutS F f (i + 1) = F.ser.add (cutS F f i) (F.mon1 (f i) i) := by
  funext n
  show (if n < i + 1 then f n else F.zero) = F.add (if n < i then f n else F.zero) (if n = i then f i else F.zero)
  rcases Nat.lt_trichotomy n i with h | h | h
  · rw [if_pos (by omega), if_pos h, if_neg (by omega), F.add_zero]
  · rw [if_pos (by omega), if_neg (by omega), if_pos h, F.zero_add, h]
  · rw [if_neg (by omega), if_neg (by omega), if_neg (by omega), F.add_zero]
theorem cutS_all {α : Type} {F : Dom α} {f : Nat → α} {i : Nat} (h : F.Sh f i) : cutS F f i = f := by
  funext n
  show (if n < i then f n else F.zero) = f n
  by_cases e : n < i
  · rw [if_pos e]
  · rw [if_neg e, h n (by omega)]
/-- The product of two lists. -/
theorem serL_mulL {pl ql : List Nat} (hp : ∀ a ∈ pl, a < D.p ^ D.k) (hq : ∀ a ∈ ql, a < D.p ^ D.k) : serL hD (mulL D pl ql) = (FD.dom hD.nzd).ser.mul (serL hD pl) (serL hD ql) := by
  have hk := hD.pre.pk
  unfold mulL
  split
  · rename_i h
    rw [serL_nil hD (l := []) rfl]
    rcases h with h | h
    · rw [serL_nil hD h, Dom.zero_mul]
    · rw [serL_nil hD h, Dom.mul_zero]
  · rename_i h
    have key : ∀ i, i ≤ pl.length → serL hD (mulF D pl ql i) = (FD.dom hD.nzd).ser.mul (cutS (FD.dom hD.nzd) (serL hD pl) i) (serL hD ql) := fun i => by
      induction i with
      | zero =>
        intro _
        show serL hD (List.replicate _ 0) = _
        rw [serL_zeros, cutS_zero, Dom.zero_mul]
      | succ i ih =>
        intro hi
        have hpi : pl[i]?.getD 0 < D.p ^ D.k := getD_lt (Nat.pow_pos hk.p0) hp i
        show serL hD (addm D (mulF D pl ql i) i ql (pl[i]?.getD 0)) = _
        rw [serL_addm hD (mulF_lt hk _ _ _) hq hpi (by rw [mulF_len]; omega), ih (by omega), cutS_succ, Dom.add_mul]
        rfl
    rw [key _ (Nat.le_refl _), cutS_all (serL_sh hD pl)]
theorem serL_sumL {p q : List Nat} (hp : ∀ a ∈ p, a < D.p ^ D.k) (hq : ∀ a ∈ q, a < D.p ^ D.k) : serL hD (sumL D p q) = (FD.dom hD.nzd).ser.add (serL hD p) (serL hD q) := by
  have hp0 := Nat.pow_pos (n := D.k) hD.pre.pk.p0
  funext i
  show toE hD.pre.pk ((sumL D p q)[i]?.getD 0) = (FD.dom hD.nzd).add (toE hD.pre.pk (p[i]?.getD 0)) (toE hD.pre.pk (q[i]?.getD 0))
  by_cases h : i < max p.length q.length
  · have e : (sumL D p q)[i]?.getD 0 = padd D.p D.k (p[i]?.getD 0) (q[i]?.getD 0) := range_get _ h
    rw [e, toE_add hD (getD_lt hp0 hp _) (getD_lt hp0 hq _)]
  · rw [List.getElem?_eq_none (by rw [sumL_len]; omega), List.getElem?_eq_none (by omega), List.getElem?_eq_none (by omega)]
    show toE hD.pre.pk 0 = (FD.dom hD.nzd).add (toE hD.pre.pk 0) (toE hD.pre.pk 0)
    rw [toE_zero hD, Dom.add_zero]
/-- A list without zeros at its end is one whose series has that degree. -/
theorem tz_of_dg {l : List Nat} {n : Nat} (h : (FD.dom hD.nzd).Dg (serL hD l) n) (hl : l.length = n + 1) : Tz l := by
  right
  intro e
  apply h.2
  show toE hD.pre.pk (l[n]?.getD 0) = _
  rw [show n = l.length - 1 by omega, e]
  exact toE_zero hD
include hD in
theorem mulL_tz {pl ql : List Nat} (hp : ∀ a ∈ pl, a < D.p ^ D.k) (hq : ∀ a ∈ ql, a < D.p ^ D.k) (tp : Tz pl) (tq : Tz ql) : Tz (mulL D pl ql) := by
  by_cases h : pl.length = 0 ∨ ql.length = 0
  · left
    unfold mulL
    rw [if_pos h]
    rfl
  · have h1 : pl.length ≠ 0 := fun e => h (.inl e)
    have h2 : ql.length ≠ 0 := fun e => h (.inr e)
    have hd := Dom.Dg.mul _ (serL_dg hD hp h1 tp) (serL_dg hD hq h2 tq)
    rw [← serL_mulL hD hp hq] at hd
    refine tz_of_dg hD hd ?_
    unfold mulL
    rw [if_neg h, mulF_len]
    omega
/-- o is f modulo m. -/
structure RemIs (m : List Nat) (f : Nat → El (D.p ^ D.k)) (o : List Nat) : Prop where
  lt : ∀ a ∈ o, a < D.p ^ D.k
  tz : Tz o
  len : o.length + 1 ≤ m.length
  eqv : Eqv (FD.dom hD.nzd) (serL hD m) f (serL hD o)
variable {m : List Nat} (hm : ∀ a ∈ m, a < D.p ^ D.k) (h1 : 1 ≤ m.length) (ht : m[m.length - 1]?.getD 0 ≠ 0)
include hm h1 ht
theorem RemIs.of {f : Nat → El (D.p ^ D.k)} {l : List Nat} (hl : ∀ a ∈ l, a < D.p ^ D.k) (tl : Tz l) (he : Eqv (FD.dom hD.nzd) (serL hD m) f (serL hD l)) : RemIs hD m f (rstF D m (invT D hD.pre.pk m) l) :=
  ⟨rstF_lt hD.pre.pk _ _ hl, rstF_tz D _ _ tl, rst_short hD hm hl h1 ht, Eqv.trans he (rst_eqv hD _ hm hl h1)⟩
theorem RemIs.uniq {f : Nat → El (D.p ^ D.k)} {o o' : List Nat} (h : RemIs hD m f o) (h' : RemIs hD m f o') : o = o' := by
  have hp0 := Nat.pow_pos (n := D.k) hD.pre.pk.p0
  have hd := serL_dg hD hm (by omega) (.inr ht)
  have e : serL hD o = serL hD o' := Eqv.eq hd (Dom.Sh.mono _ (serL_sh hD o) (by have := h.len; omega)) (Dom.Sh.mono _ (serL_sh hD o') (by have := h'.len; omega)) (Eqv.trans h.eqv.symm h'.eqv)
  have ei : ∀ i, o[i]?.getD 0 = o'[i]?.getD 0 := fun i => toE_inj hD.pre.pk (getD_lt hp0 h.lt i) (getD_lt hp0 h'.lt i) (congrFun e i)
  have key : ∀ {a b : List Nat}, (∀ i, a[i]?.getD 0 = b[i]?.getD 0) → Tz a → a.length ≤ b.length := fun {a b} hi ha => by
    rcases ha with h0 | h0
    · omega
    · apply Classical.byContradiction
      intro hc
      rw [hi, List.getElem?_eq_none (by omega)] at h0
      exact h0 rfl
  have el : o.length = o'.length := Nat.le_antisymm (key ei h.tz) (key (fun i => (ei i).symm) h'.tz)
  exact ext_getD el fun i _ => ei i
theorem RemIs.mul {f g : Nat → El (D.p ^ D.k)} {a b : List Nat} (hg : (FD.dom hD.nzd).Pl g) (ha : RemIs hD m f a) (hb : RemIs hD m g b) : RemIs hD m ((FD.dom hD.nzd).ser.mul f g) (rstF D m (invT D hD.pre.pk m) (mulL D a b)) := by
  refine RemIs.of hD hm h1 ht (mulL_lt hD.pre.pk _ _) (mulL_tz hD ha.lt hb.lt ha.tz hb.tz) ?_
  rw [serL_mulL hD ha.lt hb.lt]
  exact Eqv.mul hg (serL_pl hD a) ha.eqv hb.eqv
end
end FFld
end Go.Proofs.Ytfhhnfpapgfnmaa

set_option linter.unusedVariables false
set_option linter.unusedSimpArgs false
set_option linter.unusedSectionVars false
namespace Go.Proofs.Ytfhhnfpapgfnmaa
namespace FFld
section
variable {D : FD} (hD : D.Ok)
/-- o is f modulo m, and no longer than 1000. -/
structure RemW (m : List Nat) (f : Nat → El (D.p ^ D.k)) (o : List Nat) : Prop where
  lt : ∀ a ∈ o, a < D.p ^ D.k
  tz : Tz o
  len : o.length ≤ 1000
  eqv : Eqv (FD.dom hD.nzd) (serL hD m) f (serL hD o)
theorem serL_x : serL hD [0, 1] = xx (FD.dom hD.nzd) := by
  funext i
  show toE hD.pre.pk (([0, 1] : List Nat)[i]?.getD 0) = if i = 1 then (FD.dom hD.nzd).one else (FD.dom hD.nzd).zero
  match i with
  | 0 => exact toE_zero hD
  | 1 => exact toE_one hD
  | i + 2 => exact toE_zero hD
theorem serL_one : serL hD [1] = (FD.dom hD.nzd).ser.one := by
  funext i
  show toE hD.pre.pk (([1] : List Nat)[i]?.getD 0) = if i = 0 then (FD.dom hD.nzd).one else (FD.dom hD.nzd).zero
  match i with
  | 0 => exact toE_one hD
  | i + 1 => exact toE_zero hD
theorem serL_negx : serL hD [0, pscl D.p D.k (D.p - 1) 1] = (FD.dom hD.nzd).ser.neg (xx (FD.dom hD.nzd)) := by
  have hz : (FD.dom hD.nzd).neg (FD.dom hD.nzd).zero = (FD.dom hD.nzd).zero := Dom.neg_zero _
  funext i
  show toE hD.pre.pk (([0, pscl D.p D.k (D.p - 1) 1] : List Nat)[i]?.getD 0) = (FD.dom hD.nzd).neg (if i = 1 then (FD.dom hD.nzd).one else (FD.dom hD.nzd).zero)
  match i with
  | 0 => exact (toE_zero hD).trans hz.symm
  | 1 =>
    rw [if_pos rfl, ← toE_one hD]
    exact toE_neg hD hD.pre.pk.one_lt
  | i + 2 =>
    rw [if_neg (by omega)]
    exact (toE_zero hD).trans hz.symm
theorem x_start (m : List Nat) (q : Nat) : RemW hD m ((FD.dom hD.nzd).ser.pow (xx (FD.dom hD.nzd)) (q ^ 0)) [0, 1] := by
  have h1 := hD.pre.pk.one_lt
  refine ⟨fun a ha => ?_, .inr ?_, ?_, ?_⟩
  · simp only [List.mem_cons, List.not_mem_nil, or_false] at ha
    omega
  · show (1 : Nat) ≠ 0
    omega
  · show 2 ≤ 1000
    omega
  · rw [serL_x, Nat.pow_zero, Dom.pow_one]
    exact Eqv.refl _
theorem one_start (m : List Nat) : RemW hD m ((FD.dom hD.nzd).ser.pow (xx (FD.dom hD.nzd)) 0) [1] := by
  have h1 := hD.pre.pk.one_lt
  refine ⟨fun a ha => ?_, .inr ?_, ?_, ?_⟩
  · simp only [List.mem_cons, List.not_mem_nil, or_false] at ha
    omega
  · show (1 : Nat) ≠ 0
    omega
  · show 1 ≤ 1000
    omega
  · rw [serL_one]
    exact Eqv.refl _
theorem xpow_pl {α : Type} {F : Dom α} : ∀ n, F.Pl (F.ser.pow (xx F) n) := fun n => (Eqv.pow (g := F.ser.zero) xx_pl xx_pl (Eqv.refl _) n).2.1
theorem RemW.mul {m : List Nat} (hm : ∀ a ∈ m, a < D.p ^ D.k) (h1 : 1 ≤ m.length) (hl : m.length ≤ 1000) (ht : m[m.length - 1]?.getD 0 ≠ 0) {i j : Nat} {a b : List Nat} (ha : RemW hD m ((FD.dom hD.nzd).ser.pow (xx (FD.dom hD.nzd)) i) a) (hb : RemW hD m ((FD.dom hD.nzd).ser.pow (xx (FD.dom hD.nzd)) j) b) : RemW hD m ((FD.dom hD.nzd).ser.pow (xx (FD.dom hD.nzd)) (i + j)) (rstF D m (invT D hD.pre.pk m) (mulL D a b)) := by
  have h : RemIs hD m ((FD.dom hD.nzd).ser.pow (xx (FD.dom hD.nzd)) (i + j)) (rstF D m (invT D hD.pre.pk m) (mulL D a b)) := by
    refine RemIs.of hD hm h1 ht (mulL_lt hD.pre.pk _ _) (mulL_tz hD ha.lt hb.lt ha.tz hb.tz) ?_
    rw [serL_mulL hD ha.lt hb.lt, Dom.pow_add]
    exact Eqv.mul (xpow_pl j) (serL_pl hD a) ha.eqv hb.eqv
  exact ⟨h.lt, h.tz, by have := h.len; omega, h.eqv⟩
/-- There is no common divisor with x^(q^d) - x. -/
def NoC (l : List Nat) (d : Nat) : Prop := ∀ h e, (FD.dom hD.nzd).Dg h e → (FD.dom hD.nzd).Dv h (serL hD l) → Eqv (FD.dom hD.nzd) h ((FD.dom hD.nzd).ser.pow (xx (FD.dom hD.nzd)) ((D.p ^ D.k) ^ d)) (xx (FD.dom hD.nzd)) → e = 0
/-- What the reference asks. -/
def IrrP (l : List Nat) : Prop := 2 ≤ l.length ∧ ∀ d, 1 ≤ d → 2 * d ≤ l.length - 1 → NoC hD l d
include hD in
theorem negx_lt : ∀ a ∈ [0, pscl D.p D.k (D.p - 1) 1], a < D.p ^ D.k := fun a ha => by
  have h1 := hD.pre.pk.one_lt
  simp only [List.mem_cons, List.not_mem_nil, or_false] at ha
  rcases ha with rfl | rfl
  · omega
  · exact pscl_lt hD.pre.pk _ _
include hD in
theorem cm_ok {l x : List Nat} (hl : ∀ a ∈ l, a < D.p ^ D.k) (ht : Tz l) (hll : l.length ≤ 1000) (hx : x.length ≤ 1000) : CmOk D 1000 (l, trm (sumL D x [0, pscl D.p D.k (D.p - 1) 1])) := by
  refine ⟨hl, trm_lt (sumL_lt hD.pre.pk _ _), ht, trm_tz _, hll, ?_⟩
  have h1 := trm_len_le (sumL D x [0, pscl D.p D.k (D.p - 1) 1])
  rw [sumL_len] at h1
  show (trm (sumL D x [0, pscl D.p D.k (D.p - 1) 1])).length ≤ 1000
  simp only [List.length_cons, List.length_nil] at h1
  omega
theorem noc_is {l x out : List Nat} {d : Nat} (hl : ∀ a ∈ l, a < D.p ^ D.k) (ht : Tz l) (h0 : l.length ≠ 0) (hll : l.length ≤ 1000) (hx : RemW hD l ((FD.dom hD.nzd).ser.pow (xx (FD.dom hD.nzd)) ((D.p ^ D.k) ^ d)) x) (hc : CmnIs D hD.pre.pk l (trm (sumL D x [0, pscl D.p D.k (D.p - 1) 1])) out) : out.length ≤ 1 ↔ NoC hD l d := by
  rw [CmnIs.one hD (cm_ok hD hl ht hll hx.len) h0 hc, serL_trm, serL_sumL hD hx.lt (negx_lt hD), serL_negx]
  unfold NoC
  have key : ∀ g, (FD.dom hD.nzd).Dv g (serL hD l) → Eqv (FD.dom hD.nzd) g ((FD.dom hD.nzd).ser.pow (xx (FD.dom hD.nzd)) ((D.p ^ D.k) ^ d)) (serL hD x) := fun g hv => Dom.Dv.trans _ hv hx.eqv
  exact ⟨fun h g e hg hv he => h g e hg hv (Eqv.trans (key g hv).symm he), fun h g e hg hv he => h g e hg hv (Eqv.trans (key g hv) he)⟩
end
end FFld
end Go.Proofs.Ytfhhnfpapgfnmaa

set_option linter.unusedVariables false
set_option linter.unusedSimpArgs false
namespace Go.Proofs.Ytfhhnfpapgfnmaa
open Go Go.RowKit Go.Deep
open FFld (ints)
namespace FFld
section
variable {D : FD} (hD : D.Ok) {m : List Nat} (hm : ∀ a ∈ m, a < D.p ^ D.k) (h1 : 1 ≤ m.length) (ht : m[m.length - 1]?.getD 0 ≠ 0)
theorem pow_pl {α : Type} {F : Dom α} {f : Nat → α} (hf : F.Pl f) (n : Nat) : F.Pl (F.ser.pow f n) := (Eqv.pow (g := F.ser.zero) hf hf (Eqv.refl _) n).2.1
include hm h1 ht
theorem RemIs.one {l : List Nat} (hl : ∀ a ∈ l, a < D.p ^ D.k) (tl : Tz l) : RemIs hD m ((FD.dom hD.nzd).ser.pow (serL hD l) 1) (rstF D m (invT D hD.pre.pk m) l) :=
  RemIs.of hD hm h1 ht hl tl (by rw [Dom.pow_one]; exact Eqv.refl _)
theorem RemIs.sq {l o : List Nat} {i : Nat} (h : RemIs hD m ((FD.dom hD.nzd).ser.pow (serL hD l) i) o) : RemIs hD m ((FD.dom hD.nzd).ser.pow (serL hD l) (i + i)) (rstF D m (invT D hD.pre.pk m) (mulL D o o)) := by
  rw [Dom.pow_add]
  exact RemIs.mul hD hm h1 ht (pow_pl (serL_pl hD l) i) h h
theorem RemIs.next {l o : List Nat} {i : Nat} (hl : ∀ a ∈ l, a < D.p ^ D.k) (tl : Tz l) (h : RemIs hD m ((FD.dom hD.nzd).ser.pow (serL hD l) i) o) : RemIs hD m ((FD.dom hD.nzd).ser.pow (serL hD l) (i + 1)) (rstF D m (invT D hD.pre.pk m) (mulL D o l)) := by
  refine RemIs.of hD hm h1 ht (mulL_lt hD.pre.pk _ _) (mulL_tz hD h.lt hl h.tz tl) ?_
  rw [serL_mulL hD h.lt hl, Dom.pow_succ]
  exact Eqv.mul (serL_pl hD l) (serL_pl hD o) h.eqv (Eqv.refl _)
end
end FFld
/-- divide returns the rest. -/
theorem pdv_any {D : FFld.FD} {b : Nat} (hD : D.Ok) (vp vq : Value) (pl ql : List Nat) (w : World) (hf : FldB D w b) (hp : Sl .i64 w vp (ints pl)) (hq : Sl .i64 w vq (ints ql)) (hpq : ∀ a ∈ pl, a < D.p ^ D.k) (hqq : ∀ a ∈ ql, a < D.p ^ D.k)
    (hq1 : 1 ≤ ql.length) (hql : ql[ql.length - 1]?.getD 0 ≠ 0) (hpl : pl.length ≤ 100000) (hqll : ql.length ≤ 100000) :
    Calls Try.prog 95 #[.pointer (some ⟨b, 0, none⟩), vp, vq] w (fun e w' => Below w.heap.size w w' ∧ ∃ v v2, e = .returned (.tuple #[v, v2]) ∧ Sl .i64 w' v2 (ints (FFld.rstF D ql (FFld.invT D hD.pre.pk ql) pl))) := by
  refine (divide_any hD vp vq pl ql w hf hp hq hpq hqq hq1 hql hpl hqll).mono ?_
  rintro e w2 ⟨hb2, v, v2, qs, rs, rfl, hs2, hs3, hc2⟩
  obtain ⟨e1, e2⟩ := FFld.deRet_eq (D := D) (ql := ql) (pl := pl) hq1 hc2
  rw [e2] at hs3
  exact ⟨hb2, v, v2, rfl, hs3⟩
/-- The rest of a power. -/
def RpRet {D : FFld.FD} (hD : D.Ok) (ml pl : List Nat) (n : Nat) (w : World) (e : Ending) (w' : World) : Prop := Below w.heap.size w w' ∧ ∃ v o, e = .returned v ∧ Sl .i64 w' v (ints o) ∧ FFld.RemIs hD ml ((FFld.FD.dom hD.nzd).ser.pow (FFld.serL hD pl) n) o
set_option maxRecDepth 20000 in
set_option maxHeartbeats 1000000 in
theorem remp_any {D : FFld.FD} {b : Nat} (hD : D.Ok) (ml pl : List Nat) (hm : ∀ a ∈ ml, a < D.p ^ D.k) (h1 : 1 ≤ ml.length) (ht : ml[ml.length - 1]?.getD 0 ≠ 0) (hml : ml.length ≤ 1000) (hpq : ∀ a ∈ pl, a < D.p ^ D.k) (htp : FFld.Tz pl) (hpl : pl.length ≤ 1000) : ∀ (n : Nat), 1 ≤ n → n ≤ 70000 → ∀ (vp vm : Value) (w : World), FldB D w b → Sl .i64 w vp (ints pl) → Sl .i64 w vm (ints ml) →
    Calls Try.prog 134 #[.pointer (some ⟨b, 0, none⟩), vp, .int .i64 n, vm] w (RpRet hD ml pl n w) := by
  intro n
  induction n using Nat.strongRecOn with
  | ind n ih =>
    intro hn hn7 vp vm w hf hp hs
    have hk := hD.pre.pk
    have IH := Kept.mk ih
    have HF := Kept.mk hf
    have HP := Kept.mk hp
    have HM := Kept.mk hs
    have HDV := Kept.mk (fun vl l W (hW : Below w.heap.size w W) (h : Sl .i64 W vl (ints l)) h2 h3 => pdv_any hD vl vm l ml W (hf.below hW) h (hs.below hW) h2 hm h1 ht h3 (by omega))
    have HMU := Kept.mk (fun va vc la lc W (hW : Below w.heap.size w W) (h : Sl .i64 W va (ints la)) (h' : Sl .i64 W vc (ints lc)) h2 h3 h4 h5 => multiply_any hD va vc la lc W (hf.below hW) h h' h2 h3 h4 h5)
    have HPQ := Kept.mk hpq
    have HSQ := Kept.mk (fun i o h => FFld.RemIs.sq hD hm h1 ht (l := pl) (i := i) (o := o) h)
    have HNX := Kept.mk (fun i o h => FFld.RemIs.next hD hm h1 ht (l := pl) (i := i) (o := o) hpq htp h)
    have HON := Kept.mk (FFld.RemIs.one hD hm h1 ht hpq htp)
    have HLE := Kept.mk (fun f o (h : FFld.RemIs hD ml f o) => (show o.length ≤ 1000 by have := h.len; omega))
    have hpl6 := hpl
    clear ih hf hp hs hpq htp hm ht h1 hml
    by_cases hn1 : n = 1
    · have e1 : ((n : Int) == 1) = true := by rw [beq_iff_eq]; omega
      have HON2 : Kept (FFld.RemIs hD ml ((FFld.FD.dom hD.nzd).ser.pow (FFld.serL hD pl) n) (FFld.rstF D ml (FFld.invT D hD.pre.pk ml) pl)) := ⟨by rw [hn1]; exact HON.out⟩
      clear hn1 HON HSQ HNX HLE IH HMU
      go_enter Try.func134, Try.ntmps134
      go_wp2_with fail
      refine (HDV.out vp pl _ (Below.refl _ _) HP.out HPQ.out (by omega)).mono ?_
      rintro e w2 ⟨hb2, v, v2, rfl, hs2⟩
      have HB2 := Kept.mk hb2
      have HS2 := Kept.mk hs2
      clear hb2 hs2
      go_wp2
      go_ret
      exact ⟨HB2.out, _, _, rfl, HS2.out, HON2.out⟩
    · obtain ⟨i, hi⟩ : ∃ i, n / 2 = i := ⟨_, rfl⟩
      have en : (n : Int) / 2 = i := by rw [← hi]; rfl
      have e1 : ((n : Int) == 1) = false := by rw [beq_eq_false_iff_ne]; omega
      have hi1 : 1 ≤ i := by omega
      have hin : i < n := by omega
      have hi7 : i ≤ 70000 := by omega
      by_cases h1 : n % 2 = 1
      · have HNE : Kept (n = i + i + 1) := ⟨by omega⟩
        have ep : ((n : Int) % 2 == 1) = true := by rw [beq_iff_eq]; omega
        clear hi h1 hn1
        go_enter Try.func134, Try.ntmps134
        go_wp2_with fail
        refine (IH.out i hin hi1 hi7 vp vm w HF.out HP.out HM.out).mono ?_
        rintro e w2 ⟨hb2, vh, h, rfl, hs2, hr2⟩
        have HB2 := Kept.mk hb2
        have HS2 := Kept.mk hs2
        have HR2 := Kept.mk hr2
        clear hb2 hs2 hr2
        go_wp2_with fail
        refine (HMU.out vh vh h h _ HB2.out HS2.out HS2.out HR2.out.lt HR2.out.lt (by have := HLE.out _ _ HR2.out; omega) (by have := HLE.out _ _ HR2.out; omega)).mono ?_
        rintro e w3 ⟨hb3, v3, rfl, hs3⟩
        have HB3 := Kept.mk (bstep HB2.out hb3)
        have HS3 := Kept.mk hs3
        clear hb3 hs3
        go_wp2_with fail
        refine (HDV.out v3 _ _ HB3.out HS3.out (FFld.mulL_lt hk _ _) (by have := HLE.out _ _ HR2.out; have := mulL_le D h h; omega)).mono ?_
        rintro e w4 ⟨hb4, vq, v4, rfl, hs4⟩
        have HB4 := Kept.mk (bstep HB3.out hb4)
        have HS4 := Kept.mk hs4
        have HR4 := Kept.mk (HSQ.out i h HR2.out)
        clear hb4 hs4
        obtain ⟨r, hr⟩ : ∃ r, FFld.rstF D ml (FFld.invT D hD.pre.pk ml) (FFld.mulL D h h) = r := ⟨_, rfl⟩
        rw [hr] at HS4 HR4
        clear hr
        go_wp2_with fail
        refine (HMU.out v4 vp r pl _ HB4.out HS4.out (HP.out.below HB4.out) HR4.out.lt HPQ.out (by have := HLE.out _ _ HR4.out; omega) (by omega)).mono ?_
        rintro e w5 ⟨hb5, v5, rfl, hs5⟩
        have HB5 := Kept.mk (bstep HB4.out hb5)
        have HS5 := Kept.mk hs5
        clear hb5 hs5
        go_wp2_with fail
        refine (HDV.out v5 _ _ HB5.out HS5.out (FFld.mulL_lt hk _ _) (by have := HLE.out _ _ HR4.out; have := mulL_le D r pl; omega)).mono ?_
        rintro e w6 ⟨hb6, vq, v6, rfl, hs6⟩
        have HB6 := Kept.mk (bstep HB5.out hb6)
        have HS6 := Kept.mk hs6
        have HR6 := Kept.mk (HNX.out (i + i) r HR4.out)
        clear hb6 hs6
        go_wp2
        go_ret
        exact ⟨HB6.out, _, _, rfl, HS6.out, by rw [HNE.out]; exact HR6.out⟩
      · have HNE : Kept (n = i + i) := ⟨by omega⟩
        have ep : ((n : Int) % 2 == 1) = false := by rw [beq_eq_false_iff_ne]; omega
        clear hi h1 hn1
        go_enter Try.func134, Try.ntmps134
        go_wp2_with fail
        refine (IH.out i hin hi1 hi7 vp vm w HF.out HP.out HM.out).mono ?_
        rintro e w2 ⟨hb2, vh, h, rfl, hs2, hr2⟩
        have HB2 := Kept.mk hb2
        have HS2 := Kept.mk hs2
        have HR2 := Kept.mk hr2
        clear hb2 hs2 hr2
        go_wp2_with fail
        refine (HMU.out vh vh h h _ HB2.out HS2.out HS2.out HR2.out.lt HR2.out.lt (by have := HLE.out _ _ HR2.out; omega) (by have := HLE.out _ _ HR2.out; omega)).mono ?_
        rintro e w3 ⟨hb3, v3, rfl, hs3⟩
        have HB3 := Kept.mk (bstep HB2.out hb3)
        have HS3 := Kept.mk hs3
        clear hb3 hs3
        go_wp2_with fail
        refine (HDV.out v3 _ _ HB3.out HS3.out (FFld.mulL_lt hk _ _) (by have := HLE.out _ _ HR2.out; have := mulL_le D h h; omega)).mono ?_
        rintro e w4 ⟨hb4, vq, v4, rfl, hs4⟩
        have HB4 := Kept.mk (bstep HB3.out hb4)
        have HS4 := Kept.mk hs4
        have HR4 := Kept.mk (HSQ.out i h HR2.out)
        clear hb4 hs4
        go_wp2
        go_ret
        exact ⟨HB4.out, _, _, rfl, HS4.out, by rw [HNE.out]; exact HR4.out⟩
end Go.Proofs.Ytfhhnfpapgfnmaa

set_option linter.unusedVariables false
set_option linter.unusedSimpArgs false
namespace Go.Proofs.Ytfhhnfpapgfnmaa
open Go Go.RowKit Go.Deep
open FFld (ints)
theorem derF_len (D : FFld.FD) (l : List Nat) : (FFld.derF D l).length = l.length - 1 := by simp [FFld.derF]
theorem derF_get (D : FFld.FD) (l : List Nat) {i : Nat} (h : i < l.length - 1) : (FFld.derF D l)[i]?.getD 0 = FFld.pmul D.p D.k D.m (l[i + 1]?.getD 0) D.k ((i + 1) % D.p) := by
  unfold FFld.derF
  rw [List.getElem?_map, List.getElem?_range h]
  rfl
set_option maxRecDepth 20000 in
set_option maxHeartbeats 4000000 in
/-- The derivative. -/
theorem derivative_any {D : FFld.FD} {b : Nat} (hD : D.Ok) (vp : Value) (pl : List Nat) (n : Nat) (w : World) (hf : FldB D w b) (hp : Sl .i64 w vp (ints pl)) (hpq : ∀ a ∈ pl, a < D.p ^ D.k) (hn : pl.length = n + 1) (hn1 : 1 ≤ n) (hpl : n ≤ 1000) :
    Calls Try.prog 101 #[.pointer (some ⟨b, 0, none⟩), vp] w (fun e w' => Below w.heap.size w w' ∧ ∃ v, e = .returned v ∧ Sl .i64 w' v (ints (FFld.trm (FFld.derF D pl)))) := by
  obtain ⟨ap, cp, rfl, hcp, hmp0⟩ := hp.form
  rw [FFld.ints_len] at hcp hp ⊢
  have HP := Kept.mk hp
  have HF := Kept.mk hf
  have HPQ := Kept.mk hpq
  have HN := Kept.mk hn
  have HDL : Kept ((FFld.derF D pl).length = n) := ⟨by rw [derF_len, hn]; rfl⟩
  have HDG := Kept.mk (fun i (h : i < n) => derF_get D pl (i := i) (by omega))
  have hbl' : b < w.heap.size := hf.lt
  have hpp : D.p ≤ 65536 := hD.p6
  have hp2 : 2 ≤ D.p := hD.pre.pk.p2
  obtain ⟨_, T, x, fs, fp, fw, ms, ml, hbb, ho, _, _⟩ := hf.open
  obtain ⟨c0, _, c2, _⟩ := six_cells hbb
  have hmp := ho.mp
  have hcp2 := ho.cp
  have HPR := Kept.mk ho.product
  rw [hn] at hcp hp HP ⊢
  have ew : IntKind.i64.wrap (((n + 1 : Nat) : Int) - 1) = n := by rw [IntKind.wrap_i64]; omega
  clear ho hbb hf hp hpq hn
  go_enter Try.func101, Try.ntmps101
  go_wp2_with (at_make; refine wpList_make_zeros _ rfl _ _ 34 rfl 3 .i64 Try.underlying34 info_i64 _ _ n rfl rfl (by omega) (by omega) (by omega) ?_)
  intro w3 hrow hbel
  rw [FFld.ints_rep] at hrow
  have HW3 := Kept.mk hrow.wv
  have HB3 := Kept.mk hbel
  clear hrow hbel
  go_wp2
  go_loopw [13] (fun iv wr => ∃ (i : Nat) (qs : List Nat), i ≤ n ∧ iv = .int .i64 i ∧ qs.length = n ∧ Kept (Wv wr w.heap.size qs) ∧ Kept (∀ j, j < i → qs[j]?.getD 0 = (FFld.derF D pl)[j]?.getD 0) ∧ Kept (Below w.heap.size w wr)) (fun iv _ => n - (intOf iv).toNat)
  case atStart => exact ⟨0, List.replicate n 0, Nat.zero_le _, rfl, by simp, HW3, ⟨fun j h => absurd h (Nat.not_lt_zero _)⟩, HB3⟩
  case round =>
    obtain ⟨i, qs, hi, rfl, hqs, hqv, hqa, hbl⟩ := hrel
    by_cases hlt : i < n
    · obtain ⟨bp, op, rfl, hbp, hcell⟩ := HP.out.news_at (i + 1) (by rw [FFld.ints_len, HN.out]; omega)
      obtain ⟨a, ha⟩ : ∃ a, pl[i + 1]?.getD 0 = a := ⟨_, rfl⟩
      have haq : a < D.p ^ D.k := by rw [← ha]; exact FFld.getD_lt (Nat.pow_pos hD.pre.pk.p0) HPQ.out _
      rw [FFld.ints_get, ha] at hcell
      obtain ⟨c, hc⟩ : ∃ c, (i + 1) % D.p = c := ⟨_, rfl⟩
      have hcq : c < D.p ^ D.k := by rw [← hc]; exact FFld.small_lt hD.pre.pk (Nat.mod_lt _ (by omega))
      obtain ⟨v, hv⟩ : ∃ v, FFld.pmul D.p D.k D.m a D.k c = v := ⟨_, rfl⟩
      have HV : Kept ((FFld.derF D pl)[i]?.getD 0 = v) := ⟨by rw [HDG.out i hlt, ha, hc, hv]⟩
      have hP := Kept.mk (fun W (hW : Below w.heap.size w W) => HPR.out W hW a c haq hcq)
      rw [hv] at hP
      have f1 : wr.cell? ⟨b, 0, none⟩ = some (.iface T x) := (hbl.out.cell (p := ⟨b, 0, none⟩) hbl').trans c0
      have f2 : wr.cell? ⟨b, 2, none⟩ = some (.int .i64 D.p) := (hbl.out.cell (p := ⟨b, 2, none⟩) hbl').trans c2
      have r1 : wr.cell? ⟨bp, op + (i + 1), none⟩ = some (.int .i64 a) := (hbl.out.cell (p := ⟨bp, op + (i + 1), none⟩) hbp).trans hcell
      have hwrs := hbl.out.size
      have hgl := hqv.out.lt
      have hij : IntKind.i64.wrap ((i : Int) + 1) = (i : Int) + 1 := wi (by omega) (by omega)
      have hi1 : 0 ≤ (i : Int) + 1 := by omega
      have hi2 : (i : Int) + 1 < ((n + 1 : Nat) : Int) := by omega
      have hi3 : ((i : Int) + 1).toNat = i + 1 := by omega
      have hmd : ((i : Int) + 1) % (D.p : Int) = c := by rw [← hc]; push_cast; rfl
      have hpz : ((D.p : Int) == 0) = false := by rw [beq_eq_false_iff_ne]; omega
      have hpz2 : ¬ ((D.p : Int) = 0) := by omega
      have hpz3 : ¬ (D.p = 0) := by omega
      have hmt : ((i : Int) + 1).tmod (D.p : Int) = c := by rw [Int.tmod_eq_emod_of_nonneg (by omega)]; exact hmd
      have hc6 : c ≤ 65536 := by
        have : c < D.p := by rw [← hc]; exact Nat.mod_lt _ (by omega)
        omega
      clear ha hc hv haq hcq hcell
      go_wp2
      go_region_held3 (fun w' => w'.cell? ⟨b, 0, none⟩ = some (.iface T x) ∧ w'.cell? ⟨b, 2, none⟩ = some (.int .i64 D.p) ∧ w'.cell? ⟨bp, op + (i + 1), none⟩ = some (.int .i64 a))
        (first | exact ⟨f1, f2, r1⟩ | exact ⟨k0, k2, k1⟩ | exact ⟨l0, l2, l1⟩ | go_keep)
        ((first
          | ((with_reducible refine (hP.out _ ?_).mono ?_); (exact (by first | exact hbl.out | exact hbl.out.drew)); rintro e w4 ⟨hb4, rfl⟩; have HB4 := Kept.mk (bstep (show Below w.heap.size w _ from (by first | exact hbl.out | exact hbl.out.drew)) hb4); have HR4 : Kept (Below wr.heap.size wr w4) := ⟨(Below.refl _ _).drew.trans hb4⟩; have k0 := (HR4.out.cell (p := ⟨b, 0, none⟩) (by simp only []; omega)).trans f1; have k2 := (HR4.out.cell (p := ⟨b, 2, none⟩) (by simp only []; omega)).trans f2; have k1 := (HR4.out.cell (p := ⟨bp, op + (i + 1), none⟩) (by simp only []; omega)).trans r1; have HWQ4 := Kept.mk (hqv.out.below HR4.out); have q4 := HWQ4.out.cell (i := i) (by omega); have z4 := HWQ4.out.free i; have l0 := (World.cell?_of_block (a := ⟨b, 0, none⟩) (heap_setCell_other w4 ⟨w.heap.size, i, none⟩ b (.int .i64 v) (by simp; omega))).trans k0; have l2 := (World.cell?_of_block (a := ⟨b, 2, none⟩) (heap_setCell_other w4 ⟨w.heap.size, i, none⟩ b (.int .i64 v) (by simp; omega))).trans k2; have l1 := (World.cell?_of_block (a := ⟨bp, op + (i + 1), none⟩) (heap_setCell_other w4 ⟨w.heap.size, i, none⟩ bp (.int .i64 v) (by simp; omega))).trans k1; clear hb4)))
      have hq5 := HWQ4.out.set (i := i) v
      have hb5 : Below w.heap.size w (w4.setCell ⟨w.heap.size, i, none⟩ (.int .i64 v)) := HB4.out.setCell (p := ⟨w.heap.size, i, none⟩) (by simp only []; omega) _
      have hql5 : (qs.set i v).length = n := by rw [List.length_set]; exact hqs
      have HQ5 := Kept.mk hq5
      have HB5 := Kept.mk hb5
      clear hq5 hb5 k0 k1 k2 l0 l1 l2 q4 z4 f1 f2 r1 hP
      go_wp2
      go_roundw
      case rel => exact ⟨i + 1, qs.set i v, by omega, by go_num, hql5, HQ5, ⟨fun j hj => by
        by_cases e : j = i
        · subst e
          rw [List.getElem?_set_self (by omega), Option.getD_some, HV.out]
        · rw [List.getElem?_set_ne (by omega)]
          exact hqa.out j (by omega)⟩, HB5⟩
      case measure => simp [intOf] <;> omega
    · obtain rfl : i = n := by omega
      have he : qs = FFld.derF D pl := FFld.ext_getD (by rw [hqs, HDL.out]) fun j hj => hqa.out j (by omega)
      subst he
      have HSQ := Kept.mk (hqv.out.sl (n := i) (c := i) (by omega) (Nat.le_refl _) (by unfold maxLen; omega))
      have HT := Kept.mk (trimmed_any (FFld.derF D pl) (some ⟨w.heap.size, 0, none⟩) i wr (by rw [hqs]; exact HSQ.out))
      rw [hqs] at HT
      have HTI := Kept.mk (fun m (h1 : m ≤ (FFld.derF D pl).length) h2 h3 => FFld.trm_is (l := FFld.derF D pl) (n := m) h1 h2 h3)
      rw [HDL.out] at HTI
      go_wp2_with fail
      refine HT.out.mono ?_
      rintro e w8 ⟨rfl, m, hm, rfl, hm1, hm2⟩
      have HE := Kept.mk (HTI.out m hm hm1 hm2)
      have HWT := Kept.mk ((hqv.out.take m).sl (n := m) (c := m) (by rw [List.length_take, HDL.out]; omega) (Nat.le_refl _) (by unfold maxLen at *; omega))
      clear hm1 hm2
      go_wp2
      go_ret
      exact ⟨hbl.out, _, rfl, by rw [HE.out]; exact HWT.out⟩
end Go.Proofs.Ytfhhnfpapgfnmaa

set_option linter.unusedVariables false
set_option linter.unusedSimpArgs false
namespace Go.Proofs.Ytfhhnfpapgfnmaa
namespace FFld
theorem piv_zeros {A : List (List Nat)} {c : Nat} : ∀ f r, (∀ k, r ≤ k → k < r + f → cellAt A k c = 0) → piv A c f r = r + f
  | 0, r, _ => rfl
  | f + 1, r, h => by
    simp only [piv]
    rw [if_pos (h r (Nat.le_refl _) (by omega)), piv_zeros f (r + 1) (fun k h1 h2 => h k (by omega) (by omega))]
    omega
section
variable {D : FD} (hD : D.Ok)
/-- A row of the matrix. -/
def RS {D : FD} (hD : D.Ok) (W N : Nat) (A : List (List Nat)) (v : Nat → El (D.p ^ D.k)) : Prop := ∃ i, i < N ∧ ∀ c, c < W → v c = toE hD.pre.pk (cellAt A i c)
/-- Every row of A is a sum of multiples of the rows of B. -/
def Into {D : FD} (hD : D.Ok) (W N : Nat) (A B : List (List Nat)) : Prop := ∀ v, RS hD W N A v → Dom.Spn (FD.dom hD.nzd) W (RS hD W N B) v
variable {hD} {W N : Nat} {A B C : List (List Nat)}
theorem Into.refl : Into hD W N A A := fun v hv => .mem v hv
theorem Into.trans (h1 : Into hD W N A B) (h2 : Into hD W N B C) : Into hD W N A C := fun v hv => (h1 v hv).trans h2
theorem Dom.Spn.ext {α : Type} {F : Dom α} {W : Nat} {P : (Nat → α) → Prop} {u w : Nat → α} (h : Dom.Spn F W P u) (e : ∀ c, c < W → w c = u c) : Dom.Spn F W P w := .mul F.one u w h fun c hc => by rw [F.one_mul, e c hc]
theorem Into.of (h : ∀ i, i < N → Dom.Spn (FD.dom hD.nzd) W (RS hD W N B) (fun c => toE hD.pre.pk (cellAt A i c))) : Into hD W N A B := fun v hv => by
  obtain ⟨i, hi, e⟩ := hv
  exact (h i hi).ext e
theorem row_in {i : Nat} (hi : i < N) : Dom.Spn (FD.dom hD.nzd) W (RS hD W N A) (fun c => toE hD.pre.pk (cellAt A i c)) := .mem _ ⟨i, hi, fun _ _ => rfl⟩
theorem swapN_swapN (i j k : Nat) : swapN i j (swapN i j k) = k := by
  unfold swapN
  by_cases h1 : k = j
  · subst h1
    rw [if_pos rfl]
    by_cases h2 : i = k
    · rw [if_pos h2]; exact h2
    · rw [if_neg h2, if_pos rfl]
  · rw [if_neg h1]
    by_cases h2 : k = i
    · subst h2
      rw [if_pos rfl, if_pos rfl]
    · rw [if_neg h2, if_neg h1, if_neg h2]
theorem into_exch {i j : Nat} (hl : A.length = N) (hi : i < N) (hj : j < N) : Into hD W N (exch [] A i j) A ∧ Into hD W N A (exch [] A i j) :=
  ⟨.of fun k hk => .mem _ ⟨swapN i j k, swapN_lt hi hj hk, fun c _ => by dsimp only; rw [cell_exch (by omega) (by omega)]⟩,
   .of fun k hk => .mem _ ⟨swapN i j k, swapN_lt hi hj hk, fun c _ => by dsimp only; rw [cell_exch (by omega) (by omega), swapN_swapN]⟩⟩
theorem into_mul (hl : A.length = N) (wa : Wfm D W A) {i t x : Nat} (hi : i < N) (ht : t < D.p ^ D.k) (hx : x < D.p ^ D.k) (h1 : pmul D.p D.k D.m x D.k t = 1) : Into hD W N (mulAt D A i t) A ∧ Into hD W N A (mulAt D A i t) := by
  have hk := hD.pre.pk
  have e1 : (FD.dom hD.nzd).mul (toE hk x) (toE hk t) = (FD.dom hD.nzd).one := by rw [← toE_mul hD hx ht, h1, toE_one hD]
  refine ⟨.of fun k hkn => ?_, .of fun k hkn => ?_⟩
  · by_cases e : k = i
    · subst e
      refine .mul (toE hk t) _ _ (row_in hkn) fun c hc => ?_
      rw [cell_mul wa (by omega) t k hc, if_pos rfl, toE_mul hD (wa.cell hk _ _) ht, Dom.mul_comm]
    · exact .mem _ ⟨k, hkn, fun c hc => by dsimp only; rw [cell_mul wa (by omega) t k hc, if_neg e]⟩
  · by_cases e : k = i
    · subst e
      refine .mul (toE hk x) _ _ (row_in (A := mulAt D A k t) hkn) fun c hc => ?_
      rw [cell_mul wa (by omega) t k hc, if_pos rfl, toE_mul hD (wa.cell hk _ _) ht, Dom.mul_comm _ (toE hk (cellAt A k c)), ← Dom.mul_assoc, e1, Dom.one_mul]
    · exact .mem _ ⟨k, hkn, fun c hc => by dsimp only; rw [cell_mul wa (by omega) t k hc, if_neg e]⟩
theorem into_subs {B : List (List Nat)} {top c0 : Nat} (wa : Wfm D W A) (ht : top < N)
    (hc : ∀ k c, k < N → c < W → cellAt B k c = if k < N ∧ k ≠ top then padd D.p D.k (cellAt A k c) (pmul D.p D.k D.m (cellAt A top c) D.k (negF D (cellAt A k c0))) else cellAt A k c) : Into hD W N B A ∧ Into hD W N A B := by
  have hk := hD.pre.pk
  have hw := fun k c => wa.cell hk k c
  have hn : ∀ a, negF D a < D.p ^ D.k := fun a => pscl_lt hk _ _
  refine ⟨.of fun k hkn => ?_, .of fun k hkn => ?_⟩
  · by_cases e : k = top
    · exact .mem _ ⟨k, hkn, fun c hcw => by dsimp only; rw [hc k c hkn hcw, if_neg (fun h => h.2 e)]⟩
    · refine .add _ _ _ (row_in hkn) (.mul (toE hk (negF D (cellAt A k c0))) _ (fun c => (FD.dom hD.nzd).mul (toE hk (negF D (cellAt A k c0))) (toE hk (cellAt A top c))) (row_in ht) fun c _ => rfl) fun c hcw => ?_
      rw [hc k c hkn hcw, if_pos ⟨hkn, e⟩, toE_add hD (hw _ _) (pmul_lt hk _ _ _), toE_mul hD (hw _ _) (hn _), Dom.mul_comm]
  · by_cases e : k = top
    · exact .mem _ ⟨k, hkn, fun c hcw => by dsimp only; rw [hc k c hkn hcw, if_neg (fun h => h.2 e)]⟩
    · refine .add _ _ _ (row_in (A := B) hkn) (.mul (toE hk (cellAt A k c0)) _ (fun c => (FD.dom hD.nzd).mul (toE hk (cellAt A k c0)) (toE hk (cellAt B top c))) (row_in (A := B) ht) fun c _ => rfl) fun c hcw => ?_
      have en : toE hk (negF D (cellAt A k c0)) = (FD.dom hD.nzd).neg (toE hk (cellAt A k c0)) := toE_neg hD (hw _ _)
      rw [hc k c hkn hcw, if_pos ⟨hkn, e⟩, hc top c ht hcw, if_neg (fun h => h.2 rfl), toE_add hD (hw _ _) (pmul_lt hk _ _ _), toE_mul hD (hw _ _) (hn _), en, Dom.mul_neg, Dom.mul_comm _ (toE hk (cellAt A top c)), Dom.add_assoc, Dom.add_comm _ (Dom.neg _ _), Dom.add_neg, Dom.add_zero]
end
/-- What a step does. -/
theorem step_cases {D : FD} (hD : D.Ok) {W N n : Nat} {s : ESt} {c : Nat} (ho : EOk D W n N s) (hc : c < W) :
    (stepF D hD.pre.pk c s = s ∧ ∀ k, s.cols.length ≤ k → k < N → cellAt s.A k c = 0) ∨
    (s.cols.length < N ∧ ∃ row inv, s.cols.length ≤ row ∧ row < N ∧ inv < D.p ^ D.k ∧ pmul D.p D.k D.m (cellAt (exch [] s.A s.cols.length row) s.cols.length c) D.k inv = 1 ∧ (stepF D hD.pre.pk c s).cols = s.cols ++ [c] ∧
      ∀ k c', k < N → c' < W → cellAt (stepF D hD.pre.pk c s).A k c' = if k < N ∧ k ≠ s.cols.length then padd D.p D.k (cellAt (mulAt D (exch [] s.A s.cols.length row) s.cols.length inv) k c') (pmul D.p D.k D.m (cellAt (mulAt D (exch [] s.A s.cols.length row) s.cols.length inv) s.cols.length c') D.k (negF D (cellAt (mulAt D (exch [] s.A s.cols.length row) s.cols.length inv) k c))) else cellAt (mulAt D (exch [] s.A s.cols.length row) s.cols.length inv) k c') := by
  have hk := hD.pre.pk
  have hp := piv_le s.A c (s.A.length - s.cols.length) s.cols.length
  have hla := ho.la
  have hlr := ho.lr
  have hcl := ho.cl
  have hfd := piv_found (A := s.A) (c := c) (s.A.length - s.cols.length) s.cols.length
  have hzr := piv_zero (A := s.A) (c := c) (s.A.length - s.cols.length) s.cols.length
  unfold stepF
  simp only
  split
  · rename_i he
    exact .inl ⟨rfl, fun k h1 h2 => hzr (by omega) k h1 (by omega)⟩
  · rename_i hne
    have htop : s.cols.length < N := by omega
    have hrow : piv s.A c (s.A.length - s.cols.length) s.cols.length < N := by omega
    have hge := hp.1
    have hx0 := hfd (by omega)
    clear hfd hzr
    generalize piv s.A c (s.A.length - s.cols.length) s.cols.length = row at *
    have la1 : (exch [] s.A s.cols.length row).length = N := by rw [exch_len]; exact hla
    have w1 := ho.wa.exch (i := s.cols.length) (j := row) (by omega) (by omega)
    have wr1 := ho.wr.exch (i := s.cols.length) (j := row) (by omega) (by omega)
    have hxe : cellAt (exch [] s.A s.cols.length row) s.cols.length c = cellAt s.A row c := by
      rw [cell_exch (by omega) (by omega)]
      congr 1
      unfold swapN
      by_cases e : s.cols.length = row
      · rw [if_pos e]; exact e
      · rw [if_neg e, if_pos rfl]
    rw [← hxe] at hx0
    have hxq := w1.cell hk s.cols.length c
    have hix := hD.div_mul (a := 1) (b := cellAt (exch [] s.A s.cols.length row) s.cols.length c) hk.one_lt hxq hx0
    rw [pmul_comm hk _ _ hk.one_lt hxq, pmul_by_one hk _ hxq] at hix
    have hiq := ppow_lt hk (cellAt (exch [] s.A s.cols.length row) s.cols.length c) (D.q - 2)
    generalize ppow hk (cellAt (exch [] s.A s.cols.length row) s.cols.length c) (D.q - 2) = inv at *
    have la2 : (mulAt D (exch [] s.A s.cols.length row) s.cols.length inv).length = N := by rw [mulAt_len]; exact la1
    have w2 := w1.mul hk s.cols.length inv
    have wr2 := wr1.mul hk s.cols.length inv
    rw [hla]
    exact .inr ⟨htop, row, inv, hge, hrow, hiq, hix, rfl, fun k c' h1 h2 => cell_subs hk la2 w2 wr2 hc htop N (Nat.le_refl _) k c' h1 h2⟩
theorem into_step {D : FD} (hD : D.Ok) {W N n : Nat} {s : ESt} {c : Nat} (ho : EOk D W n N s) (hc : c < W) : Into hD W N (stepF D hD.pre.pk c s).A s.A ∧ Into hD W N s.A (stepF D hD.pre.pk c s).A := by
  have hk := hD.pre.pk
  have hla := ho.la
  rcases step_cases hD ho hc with ⟨e, _⟩ | ⟨htop, row, inv, h1, h2, h3, h4, _, h5⟩
  · rw [e]
    exact ⟨.refl, .refl⟩
  · have w1 := ho.wa.exch (i := s.cols.length) (j := row) (by omega) (by omega)
    have la1 : (exch [] s.A s.cols.length row).length = N := by rw [exch_len]; exact hla
    have i1 := into_exch (hD := hD) (W := W) hla htop h2
    have i2 := into_mul (hD := hD) la1 w1 htop h3 (w1.cell hk _ _) h4
    have i3 := into_subs (hD := hD) (w1.mul hk s.cols.length inv) htop h5
    exact ⟨i3.1.trans (i2.1.trans i1.1), i1.2.trans (i2.2.trans i3.2)⟩
theorem into_elim {D : FD} (hD : D.Ok) {W N n : Nat} {s : ESt} (ho : EOk D W n N s) : ∀ c, c ≤ W → Into hD W N (elimF D hD.pre.pk s c).A s.A ∧ Into hD W N s.A (elimF D hD.pre.pk s c).A
  | 0, _ => ⟨.refl, .refl⟩
  | c + 1, hc => by
    have h1 := into_elim hD ho c (by omega)
    have h2 := into_step hD (ho.elim hD.pre.pk c) (c := c) (by omega)
    exact ⟨h2.1.trans h1.1, h1.2.trans h2.2⟩
/-- Nothing stands above a first element either, and the first elements rise. -/
structure Rcf (N : Nat) (s : ESt) : Prop where
  up : ∀ i, i < s.cols.length → ∀ k, k < N → k ≠ i → cellAt s.A k (s.cols[i]?.getD 0) = 0
  mono : ∀ i j, i < j → j < s.cols.length → s.cols[i]?.getD 0 < s.cols[j]?.getD 0
theorem Rcf.step {D : FD} (hD : D.Ok) {W N n : Nat} {s : ESt} {c : Nat} (h : Ecf N c s) (hr : Rcf N s) (ho : EOk D W n N s) (hc : c < W) : Rcf N (stepF D hD.pre.pk c s) := by
  have hk := hD.pre.pk
  have hla := ho.la
  rcases step_cases hD ho hc with ⟨e, _⟩ | ⟨htop, row, inv, h1, h2, h3, h4, ec, h5⟩
  · rw [e]
    exact hr
  · have w1 := ho.wa.exch (i := s.cols.length) (j := row) (by omega) (by omega)
    have la1 : (exch [] s.A s.cols.length row).length = N := by rw [exch_len]; exact hla
    have c1 : ∀ k c', cellAt (exch [] s.A s.cols.length row) k c' = cellAt s.A (swapN s.cols.length row k) c' := fun k c' => cell_exch (by omega) (by omega) k c'
    have hz1 : ∀ k, s.cols.length ≤ k → k < N → ∀ c', c' < c → cellAt (exch [] s.A s.cols.length row) k c' = 0 := fun k q1 q2 c' hc' => by
      rw [c1]
      refine h.zero _ ?_ (swapN_lt htop h2 q2) c' hc'
      unfold swapN
      split
      · omega
      · split <;> omega
    have hl1 : ∀ k, k < s.cols.length → ∀ c', cellAt (exch [] s.A s.cols.length row) k c' = cellAt s.A k c' := fun k q1 c' => by
      rw [c1]
      congr 1
      unfold swapN
      rw [if_neg (by omega), if_neg (by omega)]
    generalize exch [] s.A s.cols.length row = A1 at *
    have c2 := fun k c' (hc' : c' < W) => cell_mul w1 (i := s.cols.length) (by omega) inv k hc'
    have w2 := w1.mul hk s.cols.length inv
    have ht2 : cellAt (mulAt D A1 s.cols.length inv) s.cols.length c = 1 := by rw [c2 s.cols.length c hc, if_pos rfl]; exact h4
    have hz2 : ∀ k, s.cols.length ≤ k → k < N → ∀ c', c' < c → cellAt (mulAt D A1 s.cols.length inv) k c' = 0 := fun k q1 q2 c' hc' => by
      rw [c2 k c' (by omega)]
      split
      · rw [hz1 s.cols.length (Nat.le_refl _) htop c' hc', pmul_comm hk _ _ (Nat.pow_pos hk.p0) h3, pmul_zero_right hk]
      · exact hz1 k q1 q2 c' hc'
    have hl2 : ∀ k, k < s.cols.length → ∀ c', c' < W → cellAt (mulAt D A1 s.cols.length inv) k c' = cellAt s.A k c' := fun k q1 c' hc' => by
      rw [c2 k c' hc', if_neg (by omega)]
      exact hl1 k q1 c'
    generalize mulAt D A1 s.cols.length inv = A2 at *
    have hzz : ∀ t, t < D.p ^ D.k → pmul D.p D.k D.m 0 D.k t = 0 := fun t ht => by rw [pmul_comm hk _ _ (Nat.pow_pos hk.p0) ht, pmul_zero_right hk]
    have old : ∀ k, k < N → ∀ c', c' < c → cellAt (stepF D hD.pre.pk c s).A k c' = cellAt A2 k c' := fun k q1 c' hc' => by
      rw [h5 k c' q1 (by omega)]
      split
      · rw [hz2 s.cols.length (Nat.le_refl _) htop c' hc', hzz (negF D (cellAt A2 k c)) (pscl_lt hk _ _), padd_zero hk _ (w2.cell hk k c')]
      · rfl
    have ei : ∀ i, i < s.cols.length → (s.cols ++ [c])[i]?.getD 0 = s.cols[i]?.getD 0 := fun i hi => by rw [List.getElem?_append_left hi]
    have et : (s.cols ++ [c])[s.cols.length]?.getD 0 = c := by simp
    refine ⟨fun i hi k hkn hne => ?_, fun i j hij hj => ?_⟩
    · rw [ec, List.length_append, List.length_singleton] at hi
      rw [ec]
      by_cases e : i = s.cols.length
      · subst e
        rw [et, h5 k c hkn hc, if_pos ⟨hkn, hne⟩, ht2, pmul_comm hk 1 (negF D (cellAt A2 k c)) hk.one_lt (pscl_lt hk _ _), pmul_by_one hk (negF D (cellAt A2 k c)) (pscl_lt hk _ _)]
        exact padd_neg hk _
      · have hi' : i < s.cols.length := by omega
        obtain ⟨a1, a2, a3⟩ := h.low i hi'
        rw [ei i hi', old k hkn _ a1]
        by_cases e3 : k < s.cols.length
        · rw [hl2 k e3 _ (by omega)]
          exact hr.up i hi' k hkn hne
        · exact hz2 k (by omega) hkn _ a1
    · rw [ec, List.length_append, List.length_singleton] at hj
      rw [ec, ei i (by omega)]
      by_cases e : j = s.cols.length
      · subst e
        rw [et]
        exact (h.low i (by omega)).1
      · rw [ei j (by omega)]
        exact hr.mono i j hij (by omega)
theorem Rcf.elim {D : FD} (hD : D.Ok) {W N n : Nat} {s : ESt} (h0 : s.cols = []) (ho : EOk D W n N s) : ∀ c, c ≤ W → Rcf N (elimF D hD.pre.pk s c)
  | 0, _ => ⟨fun i hi => by simp only [elimF] at hi; rw [h0] at hi; simp at hi, fun i j _ hj => by simp only [elimF] at hj; rw [h0] at hj; simp at hj⟩
  | c + 1, hc => (Rcf.elim hD h0 ho c (by omega)).step hD (Ecf.elim hD h0 ho c (by omega)) (ho.elim hD.pre.pk c) (by omega)
/-- The rank of a matrix is at least that of the one with rows and columns exchanged. -/
theorem rank_le {D : FD} (hD : D.Ok) {W N n m : Nat} {A B R S : List (List Nat)} (ha : EOk D W n N ⟨A, R, []⟩) (hb : EOk D N m W ⟨B, S, []⟩) (ht : ∀ i c, i < N → c < W → cellAt B c i = cellAt A i c) :
    (elimF D hD.pre.pk ⟨B, S, []⟩ N).cols.length ≤ (elimF D hD.pre.pk ⟨A, R, []⟩ W).cols.length := by
  have hk := hD.pre.pk
  have ia := (into_elim hD ha W (Nat.le_refl _)).2
  have ib := (into_elim hD hb N (Nat.le_refl _)).1
  have fa := Ecf.elim hD rfl ha W (Nat.le_refl _)
  have fb := Ecf.elim hD rfl hb N (Nat.le_refl _)
  have rb := Rcf.elim hD rfl hb N (Nat.le_refl _)
  have ob := hb.elim hk N
  generalize elimF D hk ⟨A, R, []⟩ W = s at *
  generalize elimF D hk ⟨B, S, []⟩ N = t at *
  have hrow : ∀ i, ∃ a : Nat → El (D.p ^ D.k), i < N → ∀ c, c < W → toE hk (cellAt A i c) = (FD.dom hD.nzd).sm (fun k => (FD.dom hD.nzd).mul (a k) (toE hk (cellAt s.A k c))) s.cols.length := fun i => by
    by_cases hi : i < N
    · have h1 := ia (fun c => toE hk (cellAt A i c)) ⟨i, hi, fun _ _ => rfl⟩
      obtain ⟨a, ha⟩ := Dom.Spn.coef (q := fun k c => toE hk (cellAt s.A k c)) (r := s.cols.length) (fun v hv => by
        obtain ⟨k, hkN, e⟩ := hv
        by_cases hkr : k < s.cols.length
        · refine ⟨fun j => if j = k then (FD.dom hD.nzd).one else (FD.dom hD.nzd).zero, fun c hc => ?_⟩
          have h := Dom.sm_one (FD.dom hD.nzd) (f := fun i => (FD.dom hD.nzd).mul (if i = k then (FD.dom hD.nzd).one else (FD.dom hD.nzd).zero) (toE hk (cellAt s.A i c))) (j := k) s.cols.length hkr (fun i _ hne => by rw [if_neg hne, Dom.zero_mul])
          dsimp only at h ⊢
          rw [e c hc, h, if_pos rfl, Dom.one_mul]
        · refine ⟨fun _ => (FD.dom hD.nzd).zero, fun c hc => ?_⟩
          rw [Dom.sm_zero _ _ fun i _ => Dom.zero_mul _ _, e c hc, fa.zero k (by omega) hkN c hc, toE_zero hD]) h1
      exact ⟨a, fun _ => ha⟩
    · exact ⟨fun _ => (FD.dom hD.nzd).zero, fun h => absurd h hi⟩
  obtain ⟨a, hA⟩ := Classical.axiomOfChoice hrow
  have hcol : ∀ j, ∃ b : Nat → El (D.p ^ D.k), j < W → ∀ i, i < N → toE hk (cellAt t.A j i) = (FD.dom hD.nzd).sm (fun k => (FD.dom hD.nzd).mul (b k) (a i k)) s.cols.length := fun j => by
    by_cases hj : j < W
    · have h1 := ib (fun i => toE hk (cellAt t.A j i)) ⟨j, hj, fun _ _ => rfl⟩
      obtain ⟨b, hb⟩ := Dom.Spn.coef (q := fun k i => a i k) (r := s.cols.length) (fun v hv => by
        obtain ⟨c, hcW, e⟩ := hv
        refine ⟨fun k => toE hk (cellAt s.A k c), fun i hi => ?_⟩
        rw [e i hi, ht i c hi hcW, hA i hi c hcW]
        exact Dom.sm_congr _ _ fun k _ => Dom.mul_comm _ _ _) h1
      exact ⟨b, fun _ => hb⟩
    · exact ⟨fun _ => (FD.dom hD.nzd).zero, fun h => absurd h hj⟩
  obtain ⟨b, hB⟩ := Classical.axiomOfChoice hcol
  have hcl := ob.cl
  have hpl : ∀ j, j < t.cols.length → t.cols[j]?.getD 0 < N := fun j hj => (fb.low j hj).1
  refine Dom.indep_le (FD.dom hD.nzd) (fun j i => toE hk (cellAt t.A j i)) b (fun k i => a i k) (fun j => t.cols[j]?.getD 0) (fun i j hi hj => hB i (by omega) _ (hpl j hj)) (fun i hi => ?_) (fun i j hi hj hne => ?_)
  · show toE hk (cellAt t.A i (t.cols[i]?.getD 0)) = _
    rw [(fb.low i hi).2.1, toE_one hD]
  · show toE hk (cellAt t.A i (t.cols[j]?.getD 0)) = _
    rw [rb.up j hj i (by omega) hne, toE_zero hD]
/-- A matrix in echelon form stays as it is. -/
theorem exch_self {α : Type} (d : α) {A : List α} {i : Nat} (hi : i < A.length) : exch d A i i = A := by
  apply List.ext_getElem?
  intro k
  rw [exch_get d A hi hi]
  congr 1
  split
  · rename_i e; exact e.symm
  · first | rfl | (split <;> first | rfl | (rename_i e; exact e.symm))
theorem rowMul_one {D : FD} (hk : PK D.p D.k D.m) {l : List Nat} (h : ∀ a ∈ l, a < D.p ^ D.k) : rowMul D l 1 = l := by
  unfold rowMul
  conv => rhs; rw [← List.map_id l]
  exact List.map_congr_left fun a ha => pmul_by_one hk a (h a ha)
theorem elim_again {D : FD} (hD : D.Ok) {W r : Nat} {E R : List (List Nat)} {cs : List Nat} (hw : Wfm D W E) (hl : E.length = r) (hR : R.length = r) (hcs : cs.length = r)
    (low : ∀ i, i < r → cs[i]?.getD 0 < W ∧ cellAt E i (cs[i]?.getD 0) = 1 ∧ ∀ c', c' < cs[i]?.getD 0 → cellAt E i c' = 0) (up : ∀ i, i < r → ∀ k, k < r → k ≠ i → cellAt E k (cs[i]?.getD 0) = 0)
    (mono : ∀ i j, i < j → j < r → cs[i]?.getD 0 < cs[j]?.getD 0) : ∀ c, c ≤ W → ∃ t R', t ≤ r ∧ elimF D hD.pre.pk ⟨E, R, []⟩ c = ⟨E, R', cs.take t⟩ ∧ (∀ i, i < t → cs[i]?.getD 0 < c) ∧ ∀ i, t ≤ i → i < r → c ≤ cs[i]?.getD 0
  | 0, _ => ⟨0, R, Nat.zero_le _, rfl, fun i h => by omega, fun i _ _ => Nat.zero_le _⟩
  | c + 1, hc => by
    have hk := hD.pre.pk
    obtain ⟨t, R', htr, e, h1, h2⟩ := elim_again hD hw hl hR hcs low up mono c (by omega)
    have htl : (cs.take t).length = t := by rw [List.length_take, hcs]; omega
    by_cases hf : t < r ∧ cs[t]?.getD 0 = c
    · obtain ⟨hlt, hct⟩ := hf
      have hct1 : cellAt E t c = 1 := by rw [← hct]; exact (low t hlt).2.1
      have hpiv : piv E c (E.length - (cs.take t).length) (cs.take t).length = t := by
        rw [htl, hl]
        obtain ⟨f, hf⟩ : ∃ f, r - t = f + 1 := ⟨r - t - 1, by omega⟩
        rw [hf]
        unfold piv
        rw [if_neg (by omega)]
      refine ⟨t + 1, (subsF D t c (E, mulAt D (exch [] R' t t) t 1) r).2, hlt, ?_, fun i hi => ?_, fun i hi1 hi2 => ?_⟩
      · show stepF D hk c (elimF D hk ⟨E, R, []⟩ c) = _
        rw [e, step_eq D hk c (row := t) (x := 1) hpiv (by omega) (by rw [htl]; omega) hct1, htl, ppow_1, exch_self _ (by omega), hl]
        have em : mulAt D E t 1 = E := by
          unfold mulAt
          rw [rowMul_one hk (hw.row (by omega)).2]
          exact rowAt_set_self (by omega)
        rw [em]
        have es : ∀ i, i ≤ r → (subsF D t c (E, mulAt D (exch [] R' t t) t 1) i).1 = E := fun i => by
          induction i with
          | zero => intro _; rfl
          | succ i ih =>
            intro hi
            simp only [subsF]
            split
            · exact ih (by omega)
            · rename_i hne
              simp only
              have hz := up t hlt i (by omega) hne
              rw [hct] at hz
              rw [ih (by omega), hz]
              exact subAt_none hk hw (by omega) (by omega)
        rw [es r (Nat.le_refl _)]
        have hg : cs[t]? = some c := by
          rw [List.getElem?_eq_getElem (by omega)] at hct ⊢
          simpa using hct
        have et : cs.take t ++ [c] = cs.take (t + 1) := by
          rw [List.take_add_one, hg]
          rfl
        rw [et]
      · by_cases e2 : i = t
        · rw [e2]; omega
        · have := h1 i (by omega)
          omega
      · have := mono t i (by omega) hi2
        omega
    · have hlt2 : ∀ i, t ≤ i → i < r → c < cs[i]?.getD 0 := fun i hi1 hi2 => by
        have a1 := h2 i hi1 hi2
        by_cases e2 : i = t
        · subst e2
          have : cs[i]?.getD 0 ≠ c := fun e3 => hf ⟨hi2, e3⟩
          omega
        · have a2 := mono t i (by omega) hi2
          have a3 := h2 t (Nat.le_refl _) (by omega)
          omega
      have hpiv : piv E c (E.length - (cs.take t).length) (cs.take t).length = E.length := by
        rw [htl, hl]
        rw [piv_zeros (A := E) (c := c) (r - t) t fun k q1 q2 => (low k (by omega)).2.2 c (hlt2 k q1 (by omega))]
        omega
      refine ⟨t, R', htr, ?_, fun i hi => ?_, fun i hi1 hi2 => ?_⟩
      · show stepF D hk c (elimF D hk ⟨E, R, []⟩ c) = _
        rw [e, step_skip D hk c hpiv]
      · have := h1 i hi
        omega
      · have := hlt2 i hi1 hi2
        omega
end FFld
end Go.Proofs.Ytfhhnfpapgfnmaa

set_option linter.unusedVariables false
set_option linter.unusedSimpArgs false
set_option linter.unusedSectionVars false
namespace Go.Proofs.Ytfhhnfpapgfnmaa
namespace FFld
/-- A row as a sum of multiples of rows. -/
theorem row_coef {D : FD} (hD : D.Ok) {W N r : Nat} {A : List (List Nat)} (hz : ∀ k, r ≤ k → k < N → ∀ c, c < W → cellAt A k c = 0) {v : Nat → El (D.p ^ D.k)} (h : Dom.Spn (FD.dom hD.nzd) W (RS hD W N A) v) :
    ∃ a : Nat → El (D.p ^ D.k), ∀ c, c < W → v c = (FD.dom hD.nzd).sm (fun k => (FD.dom hD.nzd).mul (a k) (toE hD.pre.pk (cellAt A k c))) r := by
  refine Dom.Spn.coef (q := fun k c => toE hD.pre.pk (cellAt A k c)) (fun v hv => ?_) h
  obtain ⟨k, hkN, e⟩ := hv
  by_cases hkr : k < r
  · refine ⟨fun j => if j = k then (FD.dom hD.nzd).one else (FD.dom hD.nzd).zero, fun c hc => ?_⟩
    have h := Dom.sm_one (FD.dom hD.nzd) (f := fun i => (FD.dom hD.nzd).mul (if i = k then (FD.dom hD.nzd).one else (FD.dom hD.nzd).zero) (toE hD.pre.pk (cellAt A i c))) (j := k) r hkr (fun i _ hne => by rw [if_neg hne, Dom.zero_mul])
    dsimp only at h ⊢
    rw [e c hc, h, if_pos rfl, Dom.one_mul]
  · refine ⟨fun _ => (FD.dom hD.nzd).zero, fun c hc => ?_⟩
    rw [Dom.sm_zero _ _ fun i _ => Dom.zero_mul _ _, e c hc, hz k (by omega) hkN c hc, toE_zero hD]
/-- With a first row of zeros the rank is one less than the number of rows just where the others are independent. -/
theorem nullity {D : FD} (hD : D.Ok) {W N n : Nat} {A R : List (List Nat)} (ha : EOk D W n N ⟨A, R, []⟩) (hN : 1 ≤ N) (h0 : ∀ c, c < W → cellAt A 0 c = 0) :
    (elimF D hD.pre.pk ⟨A, R, []⟩ W).cols.length + 1 = N ↔ ∀ x : Nat → El (D.p ^ D.k), (∀ c, c < W → (FD.dom hD.nzd).sm (fun i => (FD.dom hD.nzd).mul (x i) (toE hD.pre.pk (cellAt A i c))) N = (FD.dom hD.nzd).zero) → ∀ i, 1 ≤ i → i < N → x i = (FD.dom hD.nzd).zero := by
  have hk := hD.pre.pk
  have ia := (into_elim hD ha W (Nat.le_refl _)).2
  have ib := (into_elim hD ha W (Nat.le_refl _)).1
  have fa := Ecf.elim hD rfl ha W (Nat.le_refl _)
  have ra := Rcf.elim hD rfl ha W (Nat.le_refl _)
  have oa := ha.elim hk W
  generalize elimF D hk ⟨A, R, []⟩ W = s at *
  have hcl := oa.cl
  have hpl : ∀ j, j < s.cols.length → s.cols[j]?.getD 0 < W := fun j hj => (fa.low j hj).1
  -- the rows of A by those of the echelon form
  have hrow : ∀ i, ∃ a : Nat → El (D.p ^ D.k), i < N → ∀ c, c < W → toE hk (cellAt A i c) = (FD.dom hD.nzd).sm (fun k => (FD.dom hD.nzd).mul (a k) (toE hk (cellAt s.A k c))) s.cols.length := fun i => by
    by_cases hi : i < N
    · obtain ⟨a, h⟩ := row_coef hD (r := s.cols.length) (fun k h1 h2 c hc => fa.zero k h1 h2 c hc) (ia (fun c => toE hk (cellAt A i c)) ⟨i, hi, fun _ _ => rfl⟩)
      exact ⟨a, fun _ => h⟩
    · exact ⟨fun _ => (FD.dom hD.nzd).zero, fun h => absurd h hi⟩
  obtain ⟨a, hA⟩ := Classical.axiomOfChoice hrow
  -- the rows of the echelon form by those of A
  have hech : ∀ k, ∃ b : Nat → El (D.p ^ D.k), k < N → ∀ c, c < W → toE hk (cellAt s.A k c) = (FD.dom hD.nzd).sm (fun i => (FD.dom hD.nzd).mul (b i) (toE hk (cellAt A i c))) N := fun k => by
    by_cases hkn : k < N
    · obtain ⟨b, h⟩ := row_coef hD (A := A) (r := N) (fun k h1 h2 => absurd h2 (by omega)) (ib (fun c => toE hk (cellAt s.A k c)) ⟨k, hkn, fun _ _ => rfl⟩)
      exact ⟨b, fun _ => h⟩
    · exact ⟨fun _ => (FD.dom hD.nzd).zero, fun h => absurd h hkn⟩
  obtain ⟨b, hB⟩ := Classical.axiomOfChoice hech
  have hone : ∀ i, i < s.cols.length → toE hk (cellAt s.A i (s.cols[i]?.getD 0)) = (FD.dom hD.nzd).one := fun i hi => by rw [(fa.low i hi).2.1, toE_one hD]
  have hzer : ∀ i j, i < s.cols.length → j < s.cols.length → i ≠ j → toE hk (cellAt s.A i (s.cols[j]?.getD 0)) = (FD.dom hD.nzd).zero := fun i j hi hj hne => by rw [ra.up j hj i (by omega) hne, toE_zero hD]
  have hz0 : ∀ c, c < W → toE hk (cellAt A 0 c) = (FD.dom hD.nzd).zero := fun c hc => by rw [h0 c hc, toE_zero hD]
  obtain ⟨M, rfl⟩ : ∃ M, N = M + 1 := ⟨N - 1, by omega⟩
  -- at most M
  have hle : s.cols.length ≤ M := by
    refine Dom.indep_le (FD.dom hD.nzd) (fun j c => toE hk (cellAt s.A j c)) (fun k i => b k (Dom.skp 0 i)) (fun i c => toE hk (cellAt A (Dom.skp 0 i) c)) (fun j => s.cols[j]?.getD 0) (fun i j hi hj => ?_) hone hzer
    show toE hk (cellAt s.A i (s.cols[j]?.getD 0)) = _
    rw [hB i (by omega) _ (hpl j hj), Dom.sm_skip _ (j := 0) M (by omega), hz0 _ (hpl j hj), Dom.mul_zero, Dom.add_zero]
  constructor
  · intro hr x hx j hj1 hjN
    apply Classical.byContradiction
    intro hne
    obtain ⟨u, hu⟩ := dom_inv hD _ hne
    obtain ⟨K, rfl⟩ : ∃ K, M = K + 1 := ⟨M - 1, by omega⟩
    have hle2 : s.cols.length ≤ K := by
      refine Dom.indep_le (FD.dom hD.nzd) (fun j c => toE hk (cellAt s.A j c)) (fun k i => (FD.dom hD.nzd).add (b k (Dom.skp j (Dom.skp 0 i))) ((FD.dom hD.nzd).neg ((FD.dom hD.nzd).mul (b k j) ((FD.dom hD.nzd).mul u (x (Dom.skp j (Dom.skp 0 i))))))) (fun i c => toE hk (cellAt A (Dom.skp j (Dom.skp 0 i)) c)) (fun j => s.cols[j]?.getD 0) (fun i l hi hl => ?_) hone hzer
      show toE hk (cellAt s.A i (s.cols[l]?.getD 0)) = _
      obtain ⟨c, hc⟩ : ∃ c, s.cols[l]?.getD 0 = c := ⟨_, rfl⟩
      have hcW : c < W := hc ▸ hpl l hl
      rw [hc]
      have e1 : toE hk (cellAt s.A i c) = (FD.dom hD.nzd).sm (fun y => (FD.dom hD.nzd).mul ((FD.dom hD.nzd).add (b i y) ((FD.dom hD.nzd).neg ((FD.dom hD.nzd).mul (b i j) ((FD.dom hD.nzd).mul u (x y))))) (toE hk (cellAt A y c))) (K + 1 + 1) := by
        have e2 : (FD.dom hD.nzd).sm (fun y => (FD.dom hD.nzd).mul ((FD.dom hD.nzd).neg ((FD.dom hD.nzd).mul (b i j) u)) ((FD.dom hD.nzd).mul (x y) (toE hk (cellAt A y c)))) (K + 1 + 1) = (FD.dom hD.nzd).zero := by
          rw [Dom.sm_mul, hx c hcW, Dom.mul_zero]
        rw [hB i (by omega) c hcW, ← Dom.add_zero _ (Dom.sm _ _ _), ← e2, ← Dom.sm_add]
        refine Dom.sm_congr _ _ fun y _ => ?_
        have n1 : ∀ a b, (FD.dom hD.nzd).mul ((FD.dom hD.nzd).neg a) b = (FD.dom hD.nzd).neg ((FD.dom hD.nzd).mul a b) := fun a b => by rw [Dom.mul_comm, Dom.mul_neg, Dom.mul_comm]
        rw [Dom.add_mul, n1, n1, Dom.mul_assoc, Dom.mul_assoc, Dom.mul_assoc]
      rw [e1, Dom.sm_skip _ (j := j) (K + 1) hjN, Dom.sm_skip _ (j := 0) K (by omega)]
      have e3 : Dom.skp j 0 = 0 := if_pos (by omega)
      rw [e3, hz0 c hcW, Dom.mul_zero, Dom.add_zero, hu, Dom.mul_one, Dom.add_neg, Dom.zero_mul, Dom.add_zero]
    omega
  · intro hx
    apply Classical.byContradiction
    intro hne
    obtain ⟨x, ⟨i, hi, hxi⟩, hs⟩ := Dom.depend (FD.dom hD.nzd) s.cols.length M (fun i k => a (i + 1) k) (by omega)
    apply hxi
    have := hx (fun i => if i = 0 then (FD.dom hD.nzd).zero else x (i - 1)) (fun c hc => ?_) (i + 1) (by omega) (by omega)
    · rw [if_neg (by omega), Nat.add_sub_cancel] at this
      exact this
    · rw [Dom.sm_skip _ (j := 0) M (by omega)]
      rw [if_pos rfl, Dom.zero_mul, Dom.add_zero]
      have e1 : ∀ y, y < M → (FD.dom hD.nzd).mul (if Dom.skp 0 y = 0 then (FD.dom hD.nzd).zero else x (Dom.skp 0 y - 1)) (toE hk (cellAt A (Dom.skp 0 y) c)) = (FD.dom hD.nzd).sm (fun k => (FD.dom hD.nzd).mul (toE hk (cellAt s.A k c)) ((FD.dom hD.nzd).mul (x y) (a (y + 1) k))) s.cols.length := fun y hy => by
        have es : Dom.skp 0 y = y + 1 := if_neg (by omega)
        rw [es, if_neg (by omega), Nat.add_sub_cancel, hA (y + 1) (by omega) c hc, ← Dom.sm_mul]
        exact Dom.sm_congr _ _ fun k _ => by rw [← Dom.mul_assoc, Dom.mul_comm _ (Dom.mul _ _ _)]
      rw [Dom.sm_congr _ M e1, Dom.sm_comm]
      exact Dom.sm_zero _ _ fun k hk2 => by rw [Dom.sm_mul, hs k hk2, Dom.mul_zero]
end FFld
end Go.Proofs.Ytfhhnfpapgfnmaa

set_option linter.unusedVariables false
set_option linter.unusedSimpArgs false
set_option linter.unusedSectionVars false
namespace Go.Proofs.Ytfhhnfpapgfnmaa
namespace FFld
section
variable {α : Type} {F : Dom α} {E : List α} {f : Nat → α} {m : Nat} {nx : Nat → Nat → α}
theorem mon_pow (a : α) (k : Nat) : F.mon1 a k = F.ser.mul (F.mon1 a 0) (F.ser.pow (xx F) k) := by
  funext n
  rw [F.ser.mul_comm, xpow]
  unfold Dom.mon1
  by_cases h : n < k
  · rw [if_pos h, if_neg (by omega)]
  · rw [if_neg h]
    by_cases h2 : n = k
    · rw [if_pos h2, if_pos (by omega)]
    · rw [if_neg h2, if_neg (by omega)]
/-- The q-th power of a polynomial, by the q-th powers of x^i. -/
theorem pow_rows (hE : Els F E) (hnx : ∀ i, i < m → F.Sh (nx i) m ∧ Eqv F f (F.ser.pow (xx F) (i * E.length)) (nx i)) (h : Nat → α) : ∀ k, k ≤ m → Eqv F f (F.ser.pow (cutS F h k) E.length) (fun c => F.sm (fun i => F.mul (h i) (nx i c)) k) ∧ F.Pl (F.ser.pow (cutS F h k) E.length) ∧ F.Sh (fun c => F.sm (fun i => F.mul (h i) (nx i c)) k) m
  | 0, _ => by
    rw [cutS_zero, F.ser.zero_pow hE.pos]
    exact ⟨Eqv.refl _, Dom.Pl.zero F, fun _ _ => rfl⟩
  | k + 1, hk => by
    obtain ⟨h1, h2, h3⟩ := pow_rows hE hnx h k (by omega)
    obtain ⟨s1, s2⟩ := hnx k (by omega)
    have e : F.ser.pow (F.mon1 (h k) k) E.length = F.ser.mul (F.mon1 (h k) 0) (F.ser.pow (xx F) (k * E.length)) := by
      rw [mon_pow, F.ser.mul_pow, ← F.ser.pow_mul, ← emb_ser.pow, hE.pow]
    have e2 : F.ser.mul (F.mon1 (h k) 0) (nx k) = fun c => F.mul (h k) (nx k c) := funext fun c => const_mul _ _ _
    rw [cutS_succ, emb_ser.frob hE, e]
    refine ⟨?_, Dom.Pl.add F h2 (Dom.Pl.mul F ⟨1, F.mon1_sh _ 0⟩ (xpow_pl _)), fun i hi => ?_⟩
    · have := Eqv.add h1 (Eqv.mul (g := f) (a := F.mon1 (h k) 0) (a' := F.mon1 (h k) 0) (xpow_pl _) ⟨1, F.mon1_sh _ 0⟩ (Eqv.refl _) s2)
      rw [e2] at this
      exact this
    · show F.add (F.sm _ k) (F.mul (h k) (nx k i)) = _
      have h4 := h3 i hi
      dsimp only at h4
      rw [h4, s1 i hi, F.mul_zero, F.add_zero]
/-- Only the constants are their own q-th powers: as a matter of the rows x^(iq) - x^i. -/
theorem fixed_rel (hE : Els F E) (hf : F.Dg f m) (hm : 1 ≤ m) (hnx : ∀ i, i < m → F.Sh (nx i) m ∧ Eqv F f (F.ser.pow (xx F) (i * E.length)) (nx i)) :
    (∀ h, F.Sh h m → Eqv F f (F.ser.pow h E.length) h → ∃ c, h = F.mon1 c 0) ↔ ∀ x : Nat → α, (∀ c, c < m → F.sm (fun i => F.mul (x i) (F.add (nx i c) (F.neg (if c = i then F.one else F.zero)))) m = F.zero) → ∀ i, 1 ≤ i → i < m → x i = F.zero := by
  have hrel : ∀ (x : Nat → α) c, c < m → F.sm (fun i => F.mul (x i) (F.add (nx i c) (F.neg (if c = i then F.one else F.zero)))) m = F.add (F.sm (fun i => F.mul (x i) (nx i c)) m) (F.neg (x c)) := fun x c hc => by
    have e1 : F.sm (fun i => F.mul (x i) (F.neg (if c = i then F.one else F.zero))) m = F.neg (x c) := by
      rw [F.sm_one (j := c) m hc fun i _ hne => by rw [if_neg (fun e => hne e.symm), F.neg_zero, F.mul_zero], if_pos rfl, F.mul_neg, F.mul_one]
    rw [← e1, ← F.sm_add]
    exact F.sm_congr _ fun i _ => F.mul_add _ _ _
  constructor
  · intro hfix x hx i hi1 him
    have hs : F.Sh (cutS F x m) m := fun n hn => if_neg (by omega)
    obtain ⟨h1, _, h3⟩ := pow_rows hE hnx x m (Nat.le_refl _)
    have eg : (fun c => F.sm (fun i => F.mul (x i) (nx i c)) m) = cutS F x m := by
      funext c
      by_cases hc : c < m
      · have := hx c hc
        rw [hrel x c hc] at this
        have e := F.eq_of_sub this
        show _ = if c < m then x c else F.zero
        rw [if_pos hc, e]
      · exact (h3 c (by omega)).trans (hs c (by omega)).symm
    rw [eg] at h1
    obtain ⟨c, hc⟩ := hfix (cutS F x m) hs h1
    have := congrFun hc i
    unfold cutS Dom.mon1 at this
    rw [if_pos him, if_neg (by omega)] at this
    exact this
  · intro hx h hh hpw
    obtain ⟨h1, _, h3⟩ := pow_rows hE hnx h m (Nat.le_refl _)
    rw [cutS_all hh] at h1
    have eg := Eqv.eq hf h3 hh (Eqv.trans h1.symm hpw)
    have hz := hx h fun c hc => by
      rw [hrel h c hc]
      have e : F.sm (fun i => F.mul (h i) (nx i c)) m = h c := congrFun eg c
      rw [e, F.add_neg]
    refine ⟨h 0, funext fun i => ?_⟩
    show h i = if i = 0 then h 0 else F.zero
    by_cases e : i = 0
    · rw [if_pos e, e]
    · rw [if_neg e]
      by_cases him : i < m
      · exact hz i (by omega) him
      · exact hh i (by omega)
end
end FFld
end Go.Proofs.Ytfhhnfpapgfnmaa

set_option linter.unusedVariables false
set_option linter.unusedSimpArgs false
set_option linter.unusedSectionVars false
namespace Go.Proofs.Ytfhhnfpapgfnmaa
namespace FFld
section
variable {D : FD} (hD : D.Ok)
/-- Modulo the polynomial only the constants are their own q-th powers. -/
def OnlyC (l : List Nat) : Prop := ∀ h, (FD.dom hD.nzd).Sh h (l.length - 1) → Eqv (FD.dom hD.nzd) (serL hD l) ((FD.dom hD.nzd).ser.pow h (D.p ^ D.k)) h → ∃ c, h = (FD.dom hD.nzd).mon1 c 0
/-- What the rank of the matrix of the program says. -/
theorem fx_rank {l : List Nat} (hl : ∀ a ∈ l, a < D.p ^ D.k) (ht : Tz l) {m n : Nat} (hm : l.length = m + 1) (hm1 : 1 ≤ m) {nx : Nat → List Nat} (hnx : ∀ i, i < m → RemIs hD l ((FD.dom hD.nzd).ser.pow (xx (FD.dom hD.nzd)) (i * D.p ^ D.k)) (nx i)) {A R : List (List Nat)} (ha : EOk D m n m ⟨A, R, []⟩)
    (hc : ∀ i c, i < m → c < m → cellAt A i c = if c = i then padd D.p D.k ((nx i)[c]?.getD 0) (pscl D.p D.k (D.p - 1) 1) else (nx i)[c]?.getD 0) : m - (elimF D hD.pre.pk ⟨A, R, []⟩ m).cols.length = 1 ↔ OnlyC hD l := by
  have hk := hD.pre.pk
  have hp0 := Nat.pow_pos (n := D.k) hk.p0
  have hd := serL_dg hD hl (by omega) ht
  rw [hm, Nat.add_sub_cancel] at hd
  have hcell : ∀ i c, i < m → c < m → toE hk (cellAt A i c) = (FD.dom hD.nzd).add (serL hD (nx i) c) ((FD.dom hD.nzd).neg (if c = i then (FD.dom hD.nzd).one else (FD.dom hD.nzd).zero)) := fun i c hi hcm => by
    have hx := getD_lt hp0 (hnx i hi).lt c
    rw [hc i c hi hcm]
    by_cases e : c = i
    · rw [if_pos e, if_pos e, toE_add hD hx (pscl_lt hk _ _), toE_neg hD hk.one_lt, toE_one hD]
      rfl
    · rw [if_neg e, if_neg e, Dom.neg_zero, Dom.add_zero]
      rfl
  have h00 : ∀ c, c < m → cellAt A 0 c = 0 := fun c hcm => by
    have h1 := (hnx 0 (by omega)).eqv
    rw [Nat.zero_mul, Dom.pow_zero] at h1
    have e : (FD.dom hD.nzd).ser.one = serL hD (nx 0) := Eqv.eq hd (Dom.Sh.mono _ (FD.dom hD.nzd).one_sh hm1) (Dom.Sh.mono _ (serL_sh hD _) (by have := (hnx 0 (by omega)).len; omega)) h1
    refine toE_inj hk (ha.wa.cell hk 0 c) hp0 ?_
    rw [hcell 0 c (by omega) hcm, ← e, toE_zero hD]
    show (FD.dom hD.nzd).add (if c = 0 then (FD.dom hD.nzd).one else (FD.dom hD.nzd).zero) _ = _
    rw [Dom.add_neg]
  have h1 := nullity hD ha hm1 h00
  have h2 := fixed_rel (F := FD.dom hD.nzd) (f := serL hD l) (m := m) (nx := fun i => serL hD (nx i)) (dom_els hD) hd hm1 (fun i hi => ⟨Dom.Sh.mono _ (serL_sh hD _) (by have := (hnx i hi).len; omega), by rw [els_len hD]; exact (hnx i hi).eqv⟩)
  rw [els_len hD] at h2
  have h3 : OnlyC hD l ↔ ∀ x : Nat → El (D.p ^ D.k), (∀ c, c < m → (FD.dom hD.nzd).sm (fun i => (FD.dom hD.nzd).mul (x i) (toE hk (cellAt A i c))) m = (FD.dom hD.nzd).zero) → ∀ i, 1 ≤ i → i < m → x i = (FD.dom hD.nzd).zero := by
    unfold OnlyC
    rw [hm, Nat.add_sub_cancel, h2]
    have key : ∀ (x : Nat → El (D.p ^ D.k)) c, c < m → (FD.dom hD.nzd).sm (fun i => (FD.dom hD.nzd).mul (x i) (toE hk (cellAt A i c))) m = (FD.dom hD.nzd).sm (fun i => (FD.dom hD.nzd).mul (x i) ((FD.dom hD.nzd).add (serL hD (nx i) c) ((FD.dom hD.nzd).neg (if c = i then (FD.dom hD.nzd).one else (FD.dom hD.nzd).zero)))) m := fun x c hcm => Dom.sm_congr _ _ fun i hi => by rw [hcell i c hi hcm]
    exact ⟨fun h x hx => h x fun c hcm => (key x c hcm).symm.trans (hx c hcm), fun h x hx => h x fun c hcm => (key x c hcm).trans (hx c hcm)⟩
  rw [h3, ← h1]
  omega
/-- The program's answer is the reference's. -/
theorem irr_both {l : List Nat} (hl : ∀ a ∈ l, a < D.p ^ D.k) (ht : Tz l) (h2 : 2 ≤ l.length) (hll : l.length ≤ 1000) {out : List Nat} (hc : CmnIs D hD.pre.pk l (trm (derF D l)) out) : (out.length ≤ 1 ∧ OnlyC hD l) ↔ IrrP hD l := by
  have ho : CmOk D 1000 (l, trm (derF D l)) := ⟨hl, trm_lt (derF_lt hD.pre.pk _), ht, trm_tz _, hll, by
    have h1 := trm_len_le (derF D l)
    have h3 : (derF D l).length = l.length - 1 := by simp [derF]
    show (trm (derF D l)).length ≤ 1000
    omega⟩
  have h1 := CmnIs.one hD ho (by omega) hc
  rw [serL_trm, serL_der hD hl] at h1
  rw [h1]
  unfold OnlyC IrrP
  rw [irr_same hD hl ht h2]
  exact ⟨fun h => ⟨h2, h⟩, fun h => h.2⟩
end
end FFld
end Go.Proofs.Ytfhhnfpapgfnmaa

set_option linter.unusedVariables false
set_option linter.unusedSimpArgs false
namespace Go.Proofs.Ytfhhnfpapgfnmaa
open Go Go.RowKit Go.Deep
open FFld (ints)
namespace FFld
/-- n numbers: those of l, then zeros. -/
def padL (n : Nat) (l : List Nat) : List Nat := l ++ List.replicate (n - l.length) 0
theorem padL_len {n : Nat} {l : List Nat} (h : l.length ≤ n) : (padL n l).length = n := by
  unfold padL
  rw [List.length_append, List.length_replicate]
  omega
theorem padL_get (n : Nat) (l : List Nat) (c : Nat) : (padL n l)[c]?.getD 0 = l[c]?.getD 0 := by
  unfold padL
  rw [List.getElem?_append]
  split
  · rfl
  · rename_i h
    rw [List.getElem?_replicate, List.getElem?_eq_none (by omega : l.length ≤ c)]
    split <;> rfl
theorem padL_lt {n q : Nat} {l : List Nat} (h : ∀ a ∈ l, a < q) (hq : 0 < q) : ∀ a ∈ padL n l, a < q := by
  intro a ha
  rcases List.mem_append.1 ha with h1 | h1
  · exact h a h1
  · rw [List.eq_of_mem_replicate h1]; exact hq
/-- A row of the matrix of fixed. -/
def fxRow (D : FD) (n : Nat) (l : List Nat) (i : Nat) : List Nat := (padL n l).set i (padd D.p D.k ((padL n l)[i]?.getD 0) (pscl D.p D.k (D.p - 1) 1))
theorem fxRow_len {D : FD} {n i : Nat} {l : List Nat} (h : l.length ≤ n) : (fxRow D n l i).length = n := by
  unfold fxRow
  rw [List.length_set, padL_len h]
theorem fxRow_lt {D : FD} (hk : PK D.p D.k D.m) {n i : Nat} {l : List Nat} (h : ∀ a ∈ l, a < D.p ^ D.k) : ∀ a ∈ fxRow D n l i, a < D.p ^ D.k := by
  intro a ha
  rcases List.mem_or_eq_of_mem_set ha with h1 | h1
  · exact padL_lt h (Nat.pow_pos hk.p0) a h1
  · rw [h1]; exact padd_lt hk _ _
theorem fxRow_get {D : FD} {n i c : Nat} {l : List Nat} (h : l.length ≤ n) (hc : c < n) : (fxRow D n l i)[c]?.getD 0 = if c = i then padd D.p D.k (l[c]?.getD 0) (pscl D.p D.k (D.p - 1) 1) else l[c]?.getD 0 := by
  unfold fxRow
  by_cases e : c = i
  · subst e
    rw [List.getElem?_set_self (by rw [padL_len h]; exact hc), if_pos rfl, padL_get]
    rfl
  · rw [List.getElem?_set_ne (fun e2 => e e2.symm), if_neg e, padL_get]
section
variable {D : FD} (hD : D.Ok)
/-- The powers of the image, one after the other. -/
def fxN (m im : List Nat) : Nat → List Nat
  | 0 => [1]
  | i + 1 => rstF D m (invT D hD.pre.pk m) (mulL D (fxN m im i) im)
theorem fxN_rem {m im : List Nat} (hm : ∀ a ∈ m, a < D.p ^ D.k) (h2 : 2 ≤ m.length) (ht : Tz m) (him : RemIs hD m ((FD.dom hD.nzd).ser.pow (xx (FD.dom hD.nzd)) (D.p ^ D.k)) im) : ∀ i, RemIs hD m ((FD.dom hD.nzd).ser.pow (xx (FD.dom hD.nzd)) (i * D.p ^ D.k)) (fxN hD m im i)
  | 0 => by
    have h1 := one_start hD m
    rw [Nat.zero_mul]
    exact ⟨h1.lt, h1.tz, by show 1 + 1 ≤ m.length; omega, h1.eqv⟩
  | i + 1 => by
    have ht' : m[m.length - 1]?.getD 0 ≠ 0 := by
      rcases ht with h | h
      · omega
      · exact h
    have h1 := fxN_rem hm h2 ht him i
    rw [Nat.succ_mul, Dom.pow_add]
    refine RemIs.mul hD hm (by omega) ht' ?_ h1 him
    have := serL_x hD
    rw [← this]
    exact pow_pl (serL_pl hD _) _
/-- The matrix of fixed. -/
def fxM (m im : List Nat) (n : Nat) : List (List Nat) := (List.range n).map (fun i => fxRow D n (fxN hD m im i) i)
theorem fxM_row {m im : List Nat} {n i : Nat} (hi : i < n) : rowAt (fxM hD m im n) i = fxRow D n (fxN hD m im i) i := by
  unfold rowAt fxM
  rw [List.getElem?_map, List.getElem?_range hi]
  rfl
theorem fxM_ok {m im : List Nat} {n : Nat} (hm : ∀ a ∈ m, a < D.p ^ D.k) (h2 : 2 ≤ m.length) (ht : Tz m) (hn : m.length = n + 1) (him : RemIs hD m ((FD.dom hD.nzd).ser.pow (xx (FD.dom hD.nzd)) (D.p ^ D.k)) im) : EOk D n 0 n ⟨fxM hD m im n, List.replicate n [], []⟩ := by
  have key := fxN_rem hD hm h2 ht him
  refine ⟨by simp [fxM], by simp, fun r hr => ?_, fun r hr => ?_, by simp⟩
  · obtain ⟨i, hi, rfl⟩ := List.mem_map.1 hr
    have hl := (key i).len
    exact ⟨fxRow_len (by omega), fxRow_lt hD.pre.pk (key i).lt⟩
  · rw [List.eq_of_mem_replicate hr]
    exact ⟨rfl, fun a ha => by cases ha⟩
/-- What the rank of the matrix says. -/
theorem fxM_rank {m im : List Nat} {n : Nat} (hm : ∀ a ∈ m, a < D.p ^ D.k) (h2 : 2 ≤ m.length) (ht : Tz m) (hn : m.length = n + 1) (him : RemIs hD m ((FD.dom hD.nzd).ser.pow (xx (FD.dom hD.nzd)) (D.p ^ D.k)) im) : n - (elimF D hD.pre.pk ⟨fxM hD m im n, List.replicate n [], []⟩ n).cols.length = 1 ↔ OnlyC hD m := by
  have key := fxN_rem hD hm h2 ht him
  refine fx_rank hD hm ht hn (by omega) (nx := fxN hD m im) (fun i _ => key i) (fxM_ok hD hm h2 ht hn him) (fun i c hi hc => ?_)
  unfold cellAt
  rw [fxM_row hD hi]
  have hl := (key i).len
  exact fxRow_get (by omega) hc
end
end FFld
/-- A slice of numbers lies in no block of other cells. -/
theorem Sl.not_box {K : IntKind} {w : World} {v : Value} {xs : List Int} {g : Nat} {cs : Array Value} {T : TypeId} {fr : Nat × Nat} (h : Sl K w v xs) (hg : w.heap[g]? = some (.cells cs T fr)) (hc : ∀ (i : Nat) (n : Int), cs[i]? ≠ some (Value.int K n)) : live v ≠ some g := by
  intro hl
  obtain ⟨ao, cap, rfl, hcap, hm, hx⟩ := h
  by_cases h0 : 0 < xs.length
  · obtain ⟨b, o, rfl, hb, hcell⟩ := hx 0 h0
    have := live_own hl
    simp only [Value.ownBlock, Option.some.injEq] at this
    subst this
    rw [cell_of_row w b (o + 0) cs T fr hg] at hcell
    exact hc _ _ hcell
  · have : xs.length = 0 := by omega
    rw [this] at hl
    cases ao <;> simp [live] at hl
theorem Mx.not_live {K : IntKind} {w : World} {G : Nat} {L : List RH} {v : Value} {xs : List Int} (h : Mx w G L) (hs : Sl K w v xs) : live v ≠ some G := by
  refine hs.not_box h.cells (fun i n e => ?_)
  rw [List.getElem?_toArray, List.getElem?_map] at e
  cases hc : L[i]? with
  | none => rw [hc] at e; cases e
  | some r =>
    rw [hc] at e
    obtain ⟨a, b, c, hr⟩ := RH.form r
    rw [Option.map_some, hr] at e
    cases e
theorem Sl.keepG {K : IntKind} {w w' : World} {G : Nat} {L : List RH} {v : Value} {xs : List Int} (hs : Sl K w v xs) (h : Mx w G L) (hg : w.grownBy w' (some G)) : Sl K w' v xs :=
  hs.kept hg (fun k hk e => h.not_live hs (by cases e; exact hk))
theorem below_grow {B G : Nat} {w W W8 : World} (hb : Below B w W) (hg : W.grownBy W8 (some G)) (hB : B ≤ G) (hBW : B ≤ W.heap.size) : Below B w W8 :=
  ⟨hg.os.trans hb.os, hg.tape.trans hb.tape, hg.output.trans hb.output, Nat.le_trans hb.size hg.size, fun k hk => (hg.block k (by omega) (by simp; omega)).trans (hb.block k hk)⟩
/-- The matrix of fixed, as far as it is laid. -/
structure FxAt (w : World) (b G n i : Nat) (F : Nat → List Nat) (L : List RH) (W : World) : Prop where
  len : L.length = n
  bel : Below w.heap.size w W
  lo : w.heap.size ≤ G
  mx : Mx W G L
  box : W.heap[G + 1]? = some (mxbox b G n)
  dis : dis L
  low : ∀ r ∈ L, ∀ g, r.blk = some g → G + 1 < g
  val : ∀ j, (rowH L j).xs = if j < i then F j else []
theorem FxAt.below {w : World} {b G n i : Nat} {F : Nat → List Nat} {L : List RH} {W W2 : World} (h : FxAt w b G n i F L W) (hb : Below W.heap.size W W2) : FxAt w b G n i F L W2 :=
  { h with bel := h.bel.trans (hb.mono h.bel.size), mx := h.mx.below hb, box := (hb.block _ (Array.getElem?_eq_some_iff.1 h.box).1).trans h.box }
theorem FxAt.start (w : World) (b n : Nat) (F : Nat → List Nat) {W : World} (hb : Below w.heap.size w W) {G : Nat} (hG : w.heap.size ≤ G) (hm : W.heap[G]? = some (.cells (madeCells #[.slice none 0 0] n) 34 (0, 0))) (hx : W.heap[G + 1]? = some (mxbox b G n)) : FxAt w b G n 0 F (List.replicate n RH.nil) W :=
  ⟨by simp, hb, hG, Mx.nils hm, hx, dis_rep _, fun r hr g hg => (by rw [List.eq_of_mem_replicate hr] at hg; cases hg), fun j => by rw [rowH_rep, if_neg (by omega)]; rfl⟩
theorem FxAt.step {w : World} {b G n i : Nat} {F : Nat → List Nat} {L : List RH} {W W8 : World} (h : FxAt w b G n i F L W) (hi : i < n) (hn : n ≤ 1000) (hg : W.grownBy W8 (some G)) (hG : W8.heap[G]? = some (.cells ((L.map RH.val).toArray.setIfInBounds i (.slice (some ⟨W.heap.size, 0, none⟩) n n)) 34 (0, 0))) (hr : Wv W8 W.heap.size (F i)) (hl : (F i).length = n) : FxAt w b G n (i + 1) F (L.set i ⟨some W.heap.size, n, F i⟩) W8 := by
  have hGl := h.mx.lt
  have hbl : G + 1 < W.heap.size := (Array.getElem?_eq_some_iff.1 h.box).1
  have hlo := h.lo
  have hall : ∀ s ∈ L, s.blk ≠ some G := fun s hs e => by have := h.low s hs _ e; omega
  have hlt : ∀ s ∈ L, ∀ g, s.blk = some g → g < W.heap.size := fun s hs g e => (h.mx.ok s hs).lt e
  have hrv : (RH.mk (some W.heap.size) n (F i)).val = .slice (some ⟨W.heap.size, 0, none⟩) n n := by simp [RH.val, hl]
  refine ⟨by rw [List.length_set]; exact h.len, below_grow h.bel hg hlo h.bel.size, hlo, ⟨?_, fun s hs => ?_⟩, (hg.block _ hbl (by simp)).trans h.box, h.dis.store i (fun s hs g e e2 => by have := hlt s hs g e; cases e2; omega), fun s hs g e => ?_, fun j => ?_⟩
  · rw [hG, ← hrv]
    have : (L.map RH.val).toArray.setIfInBounds i (RH.mk (some W.heap.size) n (F i)).val = ((L.set i (RH.mk (some W.heap.size) n (F i))).map RH.val).toArray := by simp [List.map_set]
    rw [this]
  · rcases List.mem_or_eq_of_mem_set hs with h1 | rfl
    · exact (h.mx.ok s h1).grown hg (fun g hgb hc => hall s h1 (by rw [hgb, hc]))
    · exact ⟨hr, by show (F i).length ≤ n; omega, by show n ≤ maxLen; unfold maxLen; omega⟩
  · rcases List.mem_or_eq_of_mem_set hs with h1 | rfl
    · exact h.low s h1 g e
    · cases e; exact hbl
  · by_cases e : j = i
    · subst e
      unfold rowH
      rw [List.getElem?_set_self (by rw [h.len]; exact hi), if_pos (by omega)]
      rfl
    · have := h.val j
      unfold rowH at this ⊢
      rw [List.getElem?_set_ne (fun e2 => e e2.symm), this]
      by_cases hl : j < i
      · rw [if_pos hl, if_pos (by omega)]
      · rw [if_neg hl, if_neg (by omega)]
theorem FxAt.done {w : World} {b G n : Nat} {F : Nat → List Nat} {L : List RH} {W : World} (h : FxAt w b G n n F L W) : L.map RH.xs = (List.range n).map F := by
  apply List.ext_getElem
  · rw [List.length_map, h.len]; simp
  · intro j h1 h2
    have := h.val j
    rw [List.length_map, h.len] at h1
    unfold rowH at this
    rw [if_pos h1, List.getElem?_eq_getElem (by rw [h.len]; exact h1)] at this
    rw [List.getElem_map]
    simp only [List.getElem_map, List.getElem_range]
    exact this
/-- A row of zeros is made and stored. -/
theorem FxAt.made {w : World} {b G n i : Nat} {F : Nat → List Nat} {L : List RH} {W W5 : World} (h : FxAt w b G n i F L W) (hi : i < n)
    (h5 : Below ((W.alloc (.cells (madeCells #[.int .i64 0] n) 3)).setCell ⟨G, i, none⟩ (.slice (some ⟨W.heap.size, 0, none⟩) n n)).heap.size ((W.alloc (.cells (madeCells #[.int .i64 0] n) 3)).setCell ⟨G, i, none⟩ (.slice (some ⟨W.heap.size, 0, none⟩) n n)) W5) :
    W.grownBy W5 (some G) ∧ W5.heap[G]? = some (.cells ((L.map RH.val).toArray.setIfInBounds i (.slice (some ⟨W.heap.size, 0, none⟩) n n)) 34 (0, 0)) ∧ W5.heap[G + 1]? = some (mxbox b G n) ∧ W5.heap[W.heap.size]? = some (.cells ((ints (List.replicate n 0)).map (Value.int .i64)).toArray 3 (0, 0)) ∧ W.heap.size < W5.heap.size := by
  have hGl := h.mx.lt
  have hbl : G + 1 < W.heap.size := (Array.getElem?_eq_some_iff.1 h.box).1
  have hb : Below W.heap.size W (W.alloc (.cells (madeCells #[.int .i64 0] n) 3)) := (Below.refl _ _).alloc (Nat.le_refl _) _
  have e1 : (W.alloc (.cells (madeCells #[.int .i64 0] n) 3)).heap[G]? = some (.cells (L.map RH.val).toArray 34 (0, 0)) := (hb.block _ hGl).trans h.mx.cells
  have e2 := heap_setCell_same _ G i _ 34 (.slice (some ⟨W.heap.size, 0, none⟩) n n) e1
  have hsz : ((W.alloc (.cells (madeCells #[.int .i64 0] n) 3)).setCell ⟨G, i, none⟩ (.slice (some ⟨W.heap.size, 0, none⟩) n n)).heap.size = W.heap.size + 1 := by simp
  have hgr5 : W.grownBy W5 (some G) := growTrans (growSet (growBelow hb) _ _) (growBelow h5)
  refine ⟨hgr5, (h5.block _ (by omega)).trans e2, (hgr5.block _ hbl (by simp)).trans h.box, ?_, by have := h5.size; omega⟩
  rw [h5.block _ (by omega), ← made_zeros]
  exact (heap_setCell_other _ ⟨G, i, none⟩ W.heap.size _ (by simp; omega)).trans (heap_alloc_new W _)
theorem splice_pad (n : Nat) (l : List Nat) (h : l.length ≤ n) : splice ((ints (List.replicate n 0)).map (Value.int .i64)) 0 ((ints l).map (Value.int .i64)) = (ints (FFld.padL n l)).map (Value.int .i64) := by
  unfold splice FFld.padL ints
  simp [List.map_append, List.drop_replicate]
/-- The row is copied, and one cell of it is set. -/
theorem FxAt.next {w : World} {b G n i : Nat} {D : FFld.FD} {N : Nat → List Nat} {L : List RH} {W W5 W6 W7 : World} (h : FxAt w b G n i (fun j => FFld.fxRow D n (N j) j) L W) (hi : i < n) (hn : n ≤ 1000) (hN : (N i).length ≤ n)
    (hg5 : W.grownBy W5 (some G)) (hG5 : W5.heap[G]? = some (.cells ((L.map RH.val).toArray.setIfInBounds i (.slice (some ⟨W.heap.size, 0, none⟩) n n)) 34 (0, 0))) (hs5 : W.heap.size < W5.heap.size)
    (h6 : Below W.heap.size W5 W6) (hr6 : W6.heap[W.heap.size]? = some (.cells (splice ((ints (List.replicate n 0)).map (Value.int .i64)) 0 ((ints (N i)).map (Value.int .i64))).toArray 3 (0, 0)))
    (h7 : Below W6.heap.size W6 W7) :
    FxAt w b G n (i + 1) (fun j => FFld.fxRow D n (N j) j) (L.set i ⟨some W.heap.size, n, FFld.fxRow D n (N i) i⟩) (W7.setCell ⟨W.heap.size, i, none⟩ (.int .i64 (FFld.padd D.p D.k ((FFld.padL n (N i))[i]?.getD 0) (FFld.pscl D.p D.k (D.p - 1) 1) : Nat))) ∧ W.grownBy (W7.setCell ⟨W.heap.size, i, none⟩ (.int .i64 (FFld.padd D.p D.k ((FFld.padL n (N i))[i]?.getD 0) (FFld.pscl D.p D.k (D.p - 1) 1) : Nat))) (some G) := by
  have hGl := h.mx.lt
  have hz6 := h6.size
  have hz7 := h7.size
  rw [splice_pad n (N i) hN] at hr6
  have hw6 : Wv W6 W.heap.size (FFld.padL n (N i)) := Row.wv (show Row 3 .i64 W6 W.heap.size (ints (FFld.padL n (N i))) from hr6)
  have hw7 := (hw6.below h7).set (i := i) (FFld.padd D.p D.k ((FFld.padL n (N i))[i]?.getD 0) (FFld.pscl D.p D.k (D.p - 1) 1))
  have e : ∀ (v : Value) k, k < W.heap.size → (W7.setCell ⟨W.heap.size, i, none⟩ v).heap[k]? = W5.heap[k]? := fun v k hk =>
    (heap_setCell_other W7 ⟨W.heap.size, i, none⟩ k v (by simp; omega)).trans ((h7.block k (by omega)).trans (h6.block k hk))
  have hg8 : ∀ (v : Value), W.grownBy (W7.setCell ⟨W.heap.size, i, none⟩ v) (some G) := fun v =>
    ⟨h7.os.trans (h6.os.trans hg5.os), h7.tape.trans (h6.tape.trans hg5.tape), h7.output.trans (h6.output.trans hg5.output), by simp; omega, fun k hk hne => (e v k hk).trans (hg5.block k hk hne)⟩
  exact ⟨h.step hi hn (hg8 _) ((e _ G hGl).trans hG5) hw7 (FFld.fxRow_len hN), hg8 _⟩
end Go.Proofs.Ytfhhnfpapgfnmaa

set_option linter.unusedVariables false
set_option linter.unusedSimpArgs false
namespace Go.Proofs.Ytfhhnfpapgfnmaa
open Go Go.RowKit Go.Deep
open FFld (ints)
/-- What fixed returns. -/
def FxRet {D : FFld.FD} (hD : D.Ok) (pl : List Nat) (w : World) (e : Ending) (w' : World) : Prop := Below w.heap.size w w' ∧ ∃ k : Nat, k ≤ 1000 ∧ e = .returned (.int .i64 k) ∧ (k = 1 ↔ FFld.OnlyC hD pl)
/-- What Irreducible returns. -/
def FiRet {D : FFld.FD} (hD : D.Ok) (pl : List Nat) (w : World) (e : Ending) (w' : World) : Prop := Below w.heap.size w w' ∧ ∃ b, e = .returned (.tuple #[.bool b, .int .i64 0]) ∧ (b = true ↔ FFld.IrrP hD pl)
set_option maxRecDepth 20000 in
set_option maxHeartbeats 2000000 in
/-- The program's Irreducible, from fixed. -/
theorem firreducible_of {D : FFld.FD} {b : Nat} (hD : D.Ok) (v : Value) (pl : List Nat) (w : World) (hf : FldB D w b) (hp : Sl .i64 w v (ints pl)) (hc : cErr D (ints pl) = 0) (hpq : ∀ a ∈ pl, a < D.p ^ D.k) (ht : FFld.Tz pl) (hpl : pl.length ≤ 1000)
    (hfx : ∀ W, Below w.heap.size w W → 2 ≤ pl.length → Calls Try.prog 102 #[.pointer (some ⟨b, 0, none⟩), v] W (FxRet hD pl W)) :
    Calls Try.prog 37 #[.pointer (some ⟨b, 0, none⟩), v] w (FiRet hD pl w) := by
  have hC := Kept.mk (fcheck_any v (ints pl) w hf hp)
  rw [hc] at hC
  have HIB := Kept.mk (fun out h2 h => FFld.irr_both (out := out) hD hpq ht h2 hpl h)
  have HCO : Kept (FFld.CmOk D 1000 (pl, FFld.trm (FFld.derF D pl))) := ⟨⟨hpq, FFld.trm_lt (FFld.derF_lt hD.pre.pk _), ht, FFld.trm_tz _, hpl, by
    have h1 := FFld.trm_len_le (FFld.derF D pl)
    have h3 := derF_len D pl
    show (FFld.trm (FFld.derF D pl)).length ≤ 1000
    omega⟩⟩
  obtain ⟨ap, cp, rfl, hcp, hmp⟩ := hp.form
  rw [FFld.ints_len] at hcp hp hC hfx ⊢
  obtain ⟨n, hn⟩ : ∃ n, pl.length = n := ⟨_, rfl⟩
  rw [hn] at hcp hp hC hfx hpl ⊢
  have HN := Kept.mk hn
  have HCM := Kept.mk (fun v2 W (hW : Below w.heap.size w W) (h : Sl .i64 W v2 (ints (FFld.trm (FFld.derF D pl)))) => common_any hD (.slice ap n cp) v2 pl _ W (hf.below hW) (hp.below hW) h HCO.out)
  have HFX := Kept.mk hfx
  by_cases hsm : n < 2
  · have HNO : Kept (∀ w', Below w.heap.size w w' → FiRet hD pl w (.returned (.tuple #[.bool false, .int .i64 0])) w') := ⟨fun w' h => ⟨h, false, rfl, fun e => absurd e (by simp), fun e => absurd e.1 (by rw [HN.out]; omega)⟩⟩
    have es : decide ((n : Int) < 2) = true := by rw [decide_eq_true_eq]; omega
    clear hf hp hc hpq ht hfx hn HIB HCM HFX HCO
    go_enter Try.func37, Try.ntmps37
    go_wp2_with fail
    refine hC.out.mono ?_
    rintro e w1 ⟨rfl, rfl⟩
    go_wp2
    go_ret2
    exact HNO.out _ (Below.refl _ _)
  · obtain ⟨m, rfl⟩ : ∃ m, n = m + 1 := ⟨n - 1, by omega⟩
    have HDE := Kept.mk (derivative_any hD (.slice ap (m + 1) cp) pl m w hf hp hpq hn (by omega) (by omega))
    have es : decide (((m + 1 : Nat) : Int) < 2) = false := by rw [decide_eq_false_iff_not]; omega
    have es2 : decide ((m : Int) + 1 < 2) = false := by rw [decide_eq_false_iff_not]; omega
    clear hf hp hc hpq ht hfx hn
    go_enter Try.func37, Try.ntmps37
    go_wp2_with fail
    refine hC.out.mono ?_
    rintro e w1 ⟨rfl, rfl⟩
    go_wp2_with fail
    refine HDE.out.mono ?_
    rintro e w2 ⟨hb2, v2, rfl, hs2⟩
    have HB2 := Kept.mk hb2
    have HS2 := Kept.mk hs2
    clear hb2 hs2
    go_wp2_with fail
    refine (HCM.out v2 _ HB2.out HS2.out).mono ?_
    rintro e w3 ⟨hb3, v3, o, rfl, hs3, hcm⟩
    have HB3 := Kept.mk (bstep HB2.out hb3)
    obtain ⟨a3, c3, rfl, _, _⟩ := hs3.form
    rw [FFld.ints_len]
    have HIR := Kept.mk (HIB.out o (by rw [HN.out]; omega) hcm)
    obtain ⟨no, hno⟩ : ∃ x, o.length = x := ⟨_, rfl⟩
    rw [hno] at HIR ⊢
    clear hb3 hs3 hcm hno
    by_cases hgo : 1 < no
    · have ego : decide ((1 : Int) < no) = true := by rw [decide_eq_true_eq]; omega
      have HNO : Kept (∀ w', Below w.heap.size w w' → FiRet hD pl w (.returned (.tuple #[.bool false, .int .i64 0])) w') := ⟨fun w' h => ⟨h, false, rfl, fun e => absurd e (by simp), fun e => absurd (HIR.out.2 e).1 (by omega)⟩⟩
      go_wp2
      go_ret2
      exact HNO.out _ HB3.out
    · have ego : decide ((1 : Int) < no) = false := by rw [decide_eq_false_iff_not]; omega
      go_wp2_with fail
      refine (HFX.out _ HB3.out (by omega)).mono ?_
      rintro e w4 ⟨hb4, k, hk1, rfl, hko⟩
      have HB4 := Kept.mk (bstep HB3.out hb4)
      have HKO := Kept.mk hko
      clear hb4 hko
      by_cases hk : k = 1
      · have ek : ((k : Int) == 1) = true := by rw [beq_iff_eq]; omega
        have HYES : Kept (∀ w', Below w.heap.size w w' → FiRet hD pl w (.returned (.tuple #[.bool true, .int .i64 0])) w') := ⟨fun w' h => ⟨h, true, rfl, fun _ => HIR.out.1 ⟨by omega, HKO.out.1 hk⟩, fun _ => rfl⟩⟩
        clear hk
        go_wp2
        go_ret2
        exact HYES.out _ HB4.out
      · have ek : ((k : Int) == 1) = false := by rw [beq_eq_false_iff_ne]; omega
        have HNO : Kept (∀ w', Below w.heap.size w w' → FiRet hD pl w (.returned (.tuple #[.bool false, .int .i64 0])) w') := ⟨fun w' h => ⟨h, false, rfl, fun e => absurd e (by simp), fun e => absurd (HKO.out.2 (HIR.out.2 e).2) hk⟩⟩
        clear hk
        go_wp2
        go_ret2
        exact HNO.out _ HB4.out
end Go.Proofs.Ytfhhnfpapgfnmaa

set_option linter.unusedVariables false
set_option linter.unusedSimpArgs false
namespace Go.Proofs.Ytfhhnfpapgfnmaa
open Go Go.RowKit Go.Deep
open FFld (ints)
theorem size_i64 : (Try.prog.info? 3).map (·.size) = some 1 := by kernel_rfl
theorem Sl.src {w : World} {ao : Option Addr} {n cap : Nat} {xs : List Int} (h : Sl .i64 w (.slice ao n cap) xs) (hl : 0 < xs.length) : ∃ ad, ao = some ad ∧ ∀ j u, (xs.map (Value.int .i64))[j]? = some u → w.cell? (ad.add j) = some u := by
  have h' := h
  obtain ⟨ao', cap', e, hc, hm, hx⟩ := h
  cases e
  obtain ⟨b, o, rfl, _, _⟩ := hx 0 hl
  exact ⟨_, rfl, h'.news⟩
set_option maxRecDepth 20000 in
set_option maxHeartbeats 8000000 in
/-- How many residues are their own q-th powers. -/
theorem fixed_any {D : FFld.FD} (hD : D.Ok) (b : Nat) (v : Value) (pl : List Nat) (w : World) (hf : FldB D w b) (hp : Sl .i64 w v (ints pl)) (hpq : ∀ a ∈ pl, a < D.p ^ D.k) (ht : FFld.Tz pl) (h2 : 2 ≤ pl.length) (hpl : pl.length ≤ 1000) :
    Calls Try.prog 102 #[.pointer (some ⟨b, 0, none⟩), v] w (FxRet hD pl w) := by
  have hk := hD.pre.pk
  have hq1 := hk.one_lt
  have hq6 : D.p ^ D.k ≤ 65536 := hD.pre.small
  obtain ⟨n, hn⟩ : ∃ n, pl.length = n + 1 := ⟨pl.length - 1, by omega⟩
  have ht' : pl[pl.length - 1]?.getD 0 ≠ 0 := by
    rcases ht with h | h
    · omega
    · exact h
  obtain ⟨ap, cp, rfl, hcp, hmp⟩ := hp.form
  obtain ⟨_, _, _, _, _, _, _, _, hbb, _, _, _⟩ := hf.open
  obtain ⟨d0, d1, _⟩ := six_cells hbb
  have hbl : b < w.heap.size := hf.lt
  have h01 : ∀ a ∈ ([0, 1] : List Nat), a < D.p ^ D.k := fun a ha => by
    simp only [List.mem_cons, List.not_mem_nil, or_false] at ha
    omega
  have HRP := Kept.mk (fun vp W (hW : Below w.heap.size w W) (h : Sl .i64 W vp (ints [0, 1])) => by
    have := remp_any hD pl [0, 1] hpq (by omega) ht' hpl h01 (.inr (by show (1 : Nat) ≠ 0; omega)) (by show 2 ≤ 1000; omega) (D.p ^ D.k) (by omega) (by omega) vp (.slice ap (ints pl).length cp) W (hf.below hW) h (hp.below hW)
    unfold RpRet at this
    rw [FFld.serL_x] at this
    exact this)
  have HMU := Kept.mk (fun va vc la lc W (hW : Below w.heap.size w W) (h : Sl .i64 W va (ints la)) (h' : Sl .i64 W vc (ints lc)) h2 h3 h4 h5 => multiply_any hD va vc la lc W (hf.below hW) h h' h2 h3 h4 h5)
  have HDV := Kept.mk (fun vl l W (hW : Below w.heap.size w W) (h : Sl .i64 W vl (ints l)) h2 h3 => pdv_any hD vl (.slice ap (ints pl).length cp) l pl W (hf.below hW) h (hp.below hW) h2 hpq (by omega) ht' h3 (by omega))
  have HDF := Kept.mk (fun a a' W (hW : Below w.heap.size w W) (ha : a < D.p ^ D.k) (ha' : a' < D.p ^ D.k) => difference_any a a' W (hf.below hW) ha ha')
  have HUR := Kept.mk (fun W => unrecorded_any b n W (by omega))
  have HOK := Kept.mk (fun im him => FFld.fxM_ok hD (im := im) (n := n) hpq h2 ht hn him)
  have HRN := Kept.mk (fun im him => FFld.fxM_rank hD (im := im) (n := n) hpq h2 ht hn him)
  have HRM := Kept.mk (fun im him i => FFld.fxN_rem hD (im := im) hpq h2 ht him i)
  have HEL0 := Kept.mk (fun im (hes : FFld.EOk D n 0 n ⟨FFld.fxM hD pl im n, List.replicate n [], []⟩) G2 (L : List RH) W (hbW : Below w.heap.size w W) (hp : Pr w.heap.size W.heap.size W w.heap.size G2 L (List.replicate n RH.nil)) (e1 : L.map RH.xs = FFld.fxM hD pl im n) => eliminate_any hD W.heap.size b w.heap.size G2 n n 0 L (List.replicate n RH.nil) ⟨FFld.fxM hD pl im n, List.replicate n [], []⟩ w W hf hbW (Nat.le_refl _) hp hes e1 (by simp [RH.nil]) rfl (by omega) (by omega) (by omega) (wid_eq hes (fun h => h)))
  have hmk := run_make_row' (P := Try.prog) 49 34 (.slice none 0 0) 24 Try.underlying49 info_rows rfl .i64 .i64 n (by omega) (by omega)
  have hmk2 := run_make_row' (P := Try.prog) 34 3 (.int .i64 0) 8 Try.underlying34 info_i64 rfl .i64 .i64 n (by omega) (by omega)
  have HX0 : Kept (Bxs w [.cells (madeCells #[.slice none 0 0] n) 34, mxbox b w.heap.size n, .cells #[.int .i64 0, .int .i64 1] 3] (((w.alloc (.cells (madeCells #[.slice none 0 0] n) 34)).alloc (mxbox b w.heap.size n)).alloc (.cells #[.int .i64 0, .int .i64 1] 3))) := ⟨(((Bxs.start w).alloc (by simp) _).alloc (by simp) _).alloc (by simp) _⟩
  have HS0 : Kept (Sl .i64 (((w.alloc (.cells (madeCells #[.slice none 0 0] n) 34)).alloc (mxbox b w.heap.size n)).alloc (.cells #[.int .i64 0, .int .i64 1] 3)) (.slice (some ⟨w.heap.size + 1 + 1, 0, none⟩) 2 2) (ints [0, 1])) := ⟨by
    have := two_sl ((w.alloc (.cells (madeCells #[.slice none 0 0] n) 34)).alloc (mxbox b w.heap.size n)) 0 1
    have h0 : Sl .i64 (((w.alloc (.cells (madeCells #[.slice none 0 0] n) 34)).alloc (mxbox b w.heap.size n)).alloc (.cells #[.int .i64 0, .int .i64 1] 3)) (.slice (some ⟨w.heap.size + 1 + 1, 0, none⟩) 2 2) [0, 1] := by simpa using this
    exact h0⟩
  have HQ : Kept (w.cell? ⟨b, 1, none⟩ = some (.int .i64 ((D.p ^ D.k : Nat) : Int))) := ⟨d1⟩
  have e0 := (HX0.out.1.cell (p := ⟨b, 1, none⟩) hbl).trans HQ.out
  have ew : IntKind.i64.wrap (((n + 1 : Nat) : Int) - 1) = n := by rw [IntKind.wrap_i64]; omega
  have ew2 : IntKind.i64.wrap ((n : Int) + 1 - 1) = n := by rw [IntKind.wrap_i64]; omega
  rw [FFld.ints_len, hn] at HRP HDV hcp ⊢
  have hn' : n ≤ 999 := by omega
  have hn1 : 1 ≤ n := by omega
  have HPL : Kept (pl.length = n + 1) := ⟨hn⟩
  clear hp hf hpq ht ht' hbb hpl h2 hn h01 d0 d1
  go_enter Try.func102, Try.ntmps102
  go_wp2_with fail
  refine (HRP.out _ _ HX0.out.1 HS0.out).mono ?_
  rintro e w1 ⟨hb1, vi, im, rfl, hsi, hri⟩
  have HX1 := Kept.mk (HX0.out.below hb1)
  have HRI := Kept.mk (HRM.out im hri)
  have HEL1 := Kept.mk (HEL0.out im (HOK.out im hri))
  have HKC : Kept ((FFld.elimF D hD.pre.pk ⟨FFld.fxM hD pl im n, List.replicate n [], []⟩ n).cols.length ≤ n) := ⟨((HOK.out im hri).elim hk n).cl⟩
  have HRN1 := Kept.mk (HRN.out im hri)
  have HIML := Kept.mk (And.intro hri.lt (show im.length ≤ 1000 by have := hri.len; have := HPL.out; omega))
  obtain ⟨ai, ci, rfl, _, _⟩ := hsi.form
  rw [FFld.ints_len] at hsi ⊢
  obtain ⟨mi, hmi⟩ : ∃ mi, im.length = mi := ⟨_, rfl⟩
  rw [hmi] at hsi ⊢
  have HSI := Kept.mk (hsi.below ((Below.refl w1.heap.size w1).alloc (Nat.le_refl _) (.cells #[.int .i64 1] 3)))
  have HSN : Kept (Sl .i64 (w1.alloc (.cells #[.int .i64 1] 3)) (.slice (some ⟨w1.heap.size, 0, none⟩) 1 1) (ints (FFld.fxN hD pl im 0))) := ⟨one_sln w1 1⟩
  have HX2 := Kept.mk (HX1.out.below ((Below.refl w1.heap.size w1).alloc (Nat.le_refl _) (.cells #[.int .i64 1] 3)))
  have HAT : Kept (FxAt w b w.heap.size n 0 (fun j => FFld.fxRow D n (FFld.fxN hD pl im j) j) (List.replicate n RH.nil) (w1.alloc (.cells #[.int .i64 1] 3))) := ⟨FxAt.start w b n _ HX2.out.1 (Nat.le_refl _) HX2.out.b0 HX2.out.b1⟩
  obtain ⟨c0, c1, _⟩ := two_cells HX2.out.b1
  have HN0 : Kept ((FFld.fxN hD pl im 0).length = 1) := ⟨rfl⟩
  clear hsi hb1 hri hmi
  go_wp2
  go_loopw [8, 29] (fun nv iv wr => ∃ (i : Nat) (L : List RH) (na : Option Addr) (nl nc : Nat), i ≤ n ∧ iv = .int .i64 i ∧ nv = .slice na nl nc ∧ Kept ((FFld.fxN hD pl im i).length = nl) ∧ Kept (Sl .i64 wr (.slice na nl nc) (ints (FFld.fxN hD pl im i))) ∧ Kept (Sl .i64 wr (.slice ai mi ci) (ints im)) ∧ Kept (FxAt w b w.heap.size n i (fun j => FFld.fxRow D n (FFld.fxN hD pl im j) j) L wr)) (fun _ iv _ => n - (intOf iv).toNat)
  case atStart => exact ⟨0, _, _, 1, 1, Nat.zero_le _, rfl, rfl, HN0, HSN, HSI, HAT⟩
  case round =>
    obtain ⟨i, L, na, nl, nc, hin, rfl, rfl, hnl, hsn, hsim, hat⟩ := hrel
    clear c0 c1
    obtain ⟨c0, c1, _⟩ := two_cells hat.out.box
    by_cases hlt : i < n
    · have hnr := HRI.out i
      have hnn : nl ≤ n := by have h1 := hnr.len; have h2 := HPL.out; rw [hnl.out] at h1; omega
      have HNQ := Kept.mk hnr.lt
      have HMD := Kept.mk (fun W5 => hat.out.made (W5 := W5) hlt)
      have HNX := Kept.mk (fun W5 W6 W7 => hat.out.next (W5 := W5) (W6 := W6) (W7 := W7) hlt (by omega) (by rw [hnl.out]; exact hnn))
      have hGl := hat.out.mx.lt
      have hbx : w.heap.size + 1 < wr.heap.size := (Array.getElem?_eq_some_iff.1 hat.out.box).1
      have fr := hat.out.mx.free i
      have fc := hat.out.mx.cell (i := i) (by rw [hat.out.len]; exact hlt)
      clear hnr
      go_wp2
      go_region
      all_goals
        (have h5 := Kept.mk (show Below ((wr.alloc (.cells (madeCells #[.int .i64 0] n) 3)).setCell ⟨w.heap.size, i, none⟩ (.slice (some ⟨wr.heap.size, 0, none⟩) n n)).heap.size ((wr.alloc (.cells (madeCells #[.int .i64 0] n) 3)).setCell ⟨w.heap.size, i, none⟩ (.slice (some ⟨wr.heap.size, 0, none⟩) n n)) (((wr.setCell ⟨w.heap.size, i, none⟩ (.slice (some ⟨wr.heap.size, 0, none⟩) n n)).alloc (.cells (madeCells #[.int .i64 0] n) 3)).drew) from by rw [World.setCell_alloc_past _ _ _ _ hGl]; exact belowDrew _)
         obtain ⟨W5, hW5⟩ : ∃ W, ((wr.setCell ⟨w.heap.size, i, none⟩ (.slice (some ⟨wr.heap.size, 0, none⟩) n n)).alloc (.cells (madeCells #[.int .i64 0] n) 3)).drew = W := ⟨_, rfl⟩
         rw [hW5] at h5 ⊢
         clear hW5
         obtain ⟨hg5, hG5, hx5, hr5, hs5⟩ := HMD.out W5 h5.out
         have HS5 := Kept.mk (hsn.out.keepG hat.out.mx hg5)
         have HNX5 := Kept.mk (fun W6 W7 => HNX.out W5 W6 W7 hg5 hG5 hs5)
         have HG5 := Kept.mk hG5
         have HL5 := Kept.mk hat.out.len
         have HBW5 := Kept.mk (below_grow hat.out.bel hg5 (Nat.le_refl _) hat.out.bel.size)
         obtain ⟨gN, hgN⟩ : ∃ g, wr.heap.size = g := ⟨_, rfl⟩
         rw [hgN] at hr5 HNX5 HG5 hs5 hbx hGl ⊢
         clear HMD HNX h5 c0 c1 fr fc
         obtain ⟨c0, c1, _⟩ := two_cells hx5
         have g5 : W5.cell? ⟨w.heap.size, i, none⟩ = some (.slice (some ⟨gN, 0, none⟩) n n) := by
           rw [cell_of_row W5 w.heap.size i _ _ (0, 0) HG5.out]
           simp [HL5.out, hlt]
         have hl5 : w.heap.size + 1 < W5.heap.size := by omega
         have HX5 := Kept.mk hx5
         obtain ⟨cs, hcs⟩ : ∃ cs, cs = (ints (FFld.fxN hD pl im i)).map (Value.int .i64) := ⟨_, rfl⟩
         have HCS := Kept.mk hcs
         have HCL : Kept (cs.length = nl) := ⟨by rw [hcs, List.length_map, FFld.ints_len, hnl.out]⟩
         have HONE : Kept (∀ v ∈ cs, v.oneCell' = true) := ⟨fun v hv => by
           rw [HCS.out] at hv
           obtain ⟨a, _, rfl⟩ := List.mem_map.1 hv
           rfl⟩
         have HPOS : Kept (0 < cs.length → ∃ ad, na = some ad ∧ ∀ j u, cs[j]? = some u → W5.cell? (ad.add j) = some u) := ⟨fun h => by
           rw [HCL.out] at h
           rw [HCS.out]
           exact HS5.out.src (by rw [FFld.ints_len, hnl.out]; exact h)⟩
         have HR5 := Kept.mk hr5
         clear hcs hg5 hG5 hx5 hr5
         go_wp2_with (refine wpList_copy_splice (o := ⟨some 44, _, _, _, _, _⟩) rfl (.tmp 42) (.tmp 43) 34 34 rfl 3 Try.underlying34 size_i64 _ _ n n nl nc rfl rfl gN 0 ((ints (List.replicate n 0)).map (Value.int .i64)) 3 HR5.out cs (by show _ = min _ _; rw [HCL.out]; exact (Nat.min_eq_left hnn).symm) (fun h => ⟨rfl, HPOS.out h⟩) (by rw [HCL.out]; simp [FFld.ints_len]; exact hnn) HONE.out gN W5 (Below.refl _ _) (Nat.le_refl _) ?_)
         intro w6 hr6 hb6
         have hz6 := hb6.size
         have HR6 : Kept (w6.heap[gN]? = some (.cells (splice ((ints (List.replicate n 0)).map (Value.int .i64)) 0 ((ints (FFld.fxN hD pl im i)).map (Value.int .i64))).toArray 3 (0, 0))) := ⟨by rw [← HCS.out]; exact hr6.out⟩
         have HB6 := Kept.mk hb6
         have HW6 : Kept (Wv w6 gN (FFld.padL n (FFld.fxN hD pl im i))) := ⟨by
           have h1 := HR6.out
           rw [splice_pad n _ (by rw [hnl.out]; exact hnn)] at h1
           exact Row.wv (show Row 3 .i64 w6 gN (ints (FFld.padL n (FFld.fxN hD pl im i))) from h1)⟩
         obtain ⟨xv, hxv⟩ : ∃ x, (FFld.padL n (FFld.fxN hD pl im i))[i]?.getD 0 = x := ⟨_, rfl⟩
         have hxq : xv < D.p ^ D.k := by rw [← hxv]; exact FFld.getD_lt (Nat.pow_pos hk.p0) (FFld.padL_lt HNQ.out (Nat.pow_pos hk.p0)) i
         have r1 := HW6.out.cell (i := i) (by rw [FFld.padL_len (by rw [hnl.out]; exact hnn)]; exact hlt)
         rw [hxv] at r1
         have f1 := (hb6.cell (p := ⟨w.heap.size + 1, 1, none⟩) hbx).trans c1
         have f2 := (hb6.cell (p := ⟨w.heap.size, i, none⟩) hGl).trans g5
         have HBW6 : Kept (Below w.heap.size w w6) := ⟨HBW5.out.trans (hb6.mono (by omega))⟩
         obtain ⟨sv, hsv⟩ : ∃ s, FFld.padd D.p D.k xv (FFld.pscl D.p D.k (D.p - 1) 1) = s := ⟨_, rfl⟩
         have hDF := Kept.mk (fun W hW => HDF.out xv 1 W hW hxq hq1)
         rw [hsv] at hDF
         have HNX6 := Kept.mk (fun W7 => HNX5.out w6 W7 hb6 HR6.out)
         rw [hxv, hsv] at HNX6
         have hl6 : w.heap.size + 1 < w6.heap.size := by omega
         have hg6 : gN < w6.heap.size := by omega
         clear hr6 hb6 c0 c1 g5 hxv hsv HR5 HONE HPOS HX5
         go_wp2
         refine wp_region_held_drew (S := fun w' => w'.cell? ⟨w.heap.size + 1, 1, none⟩ = some (.slice (some ⟨w.heap.size, 0, none⟩) n n) ∧ w'.cell? ⟨w.heap.size, i, none⟩ = some (.slice (some ⟨gN, 0, none⟩) n n)) (by kernel_rfl) ⟨f1, f2⟩ (fun hHeld => ?_)
         refine wpAnyH_take (i := 0) (v := ?_) rfl (by kernel_rfl) (by kernel_rfl) (by kernel_rfl) (fun _ _ _ h => h) (Or.inl ⟨by rfl, ?_⟩) (by assumption) ?_
         rotate_left
         · (intro w hSw; (try dsimp only at hSw); go_simp; (try with_reducible rfl))
         try simp only [Act.put, List.getElem_toArray, List.getElem_cons_succ, List.getElem_cons_zero, List.setIfInBounds_toArray, List.set_cons_zero, List.set_cons_succ]
         refine wpAnyH_take (i := 1) (v := ?_) rfl (by kernel_rfl) (by kernel_rfl) (by kernel_rfl) (fun _ _ _ h => h) (Or.inl ⟨by rfl, ?_⟩) (by assumption) ?_
         rotate_left
         · (intro w hSw; (try dsimp only at hSw); go_simp; (try with_reducible rfl))
         try simp only [Act.put, List.getElem_toArray, List.getElem_cons_succ, List.getElem_cons_zero, List.setIfInBounds_toArray, List.set_cons_zero, List.set_cons_succ]
         refine wpAnyH_take (i := 2) (v := ?_) rfl (by kernel_rfl) (by kernel_rfl) (by kernel_rfl) (fun _ _ _ h => h) (Or.inl ⟨by rfl, ?_⟩) (by assumption) ?_
         rotate_left
         · (intro w hSw; (try dsimp only at hSw); go_simp; (try with_reducible rfl))
         try simp only [Act.put, List.getElem_toArray, List.getElem_cons_succ, List.getElem_cons_zero, List.setIfInBounds_toArray, List.set_cons_zero, List.set_cons_succ]
         refine wpAnyH_take (i := 3) (v := ?_) rfl (by kernel_rfl) (by kernel_rfl) (by kernel_rfl) (fun _ _ _ h => h) (Or.inl ⟨by rfl, ?_⟩) (by assumption) ?_
         rotate_left
         · (intro w hSw; (try dsimp only at hSw); go_simp; (try with_reducible rfl))
         try simp only [Act.put, List.getElem_toArray, List.getElem_cons_succ, List.getElem_cons_zero, List.setIfInBounds_toArray, List.set_cons_zero, List.set_cons_succ]
         refine wpAnyH_take (i := 4) (v := ?_) rfl (by kernel_rfl) (by kernel_rfl) (by kernel_rfl) (fun _ _ _ h => h) (Or.inl ⟨by rfl, ?_⟩) (by assumption) ?_
         rotate_left
         · (intro w hSw; (try dsimp only at hSw); go_simp; (try with_reducible rfl))
         try simp only [Act.put, List.getElem_toArray, List.getElem_cons_succ, List.getElem_cons_zero, List.setIfInBounds_toArray, List.set_cons_zero, List.set_cons_succ]
         refine wpAnyH_take (i := 5) (v := ?_) rfl (by kernel_rfl) (by kernel_rfl) (by kernel_rfl) (fun _ _ _ h => h) (Or.inl ⟨by rfl, ?_⟩) (by assumption) ?_
         rotate_left
         · (intro w hSw; (try dsimp only at hSw); go_simp; (try with_reducible rfl))
         try simp only [Act.put, List.getElem_toArray, List.getElem_cons_succ, List.getElem_cons_zero, List.setIfInBounds_toArray, List.set_cons_zero, List.set_cons_succ]
         refine wpAnyH_take (i := 6) (v := ?_) rfl (by kernel_rfl) (by kernel_rfl) (by kernel_rfl) (fun _ _ _ h => h) (Or.inl ⟨by rfl, ?_⟩) (by assumption) ?_
         rotate_left
         · (intro w hSw; (try dsimp only at hSw); go_simp; (try with_reducible rfl))
         try simp only [Act.put, List.getElem_toArray, List.getElem_cons_succ, List.getElem_cons_zero, List.setIfInBounds_toArray, List.set_cons_zero, List.set_cons_succ]
         refine wpAnyH_take (i := 7) (v := ?_) rfl (by kernel_rfl) (by kernel_rfl) (by kernel_rfl) (fun _ _ _ h => h) (Or.inl ⟨by rfl, ?_⟩) (by assumption) ?_
         rotate_left
         · (intro w hSw; (try dsimp only at hSw); go_simp; (try with_reducible rfl))
         try simp only [Act.put, List.getElem_toArray, List.getElem_cons_succ, List.getElem_cons_zero, List.setIfInBounds_toArray, List.set_cons_zero, List.set_cons_succ]
         refine wpAnyH_take (i := 8) (v := ?_) rfl (by kernel_rfl) (by kernel_rfl) (by kernel_rfl) (fun _ _ _ h => h) (Or.inl ⟨by rfl, ?_⟩) (by assumption) ?_
         rotate_left
         · (intro w hSw; (try dsimp only at hSw); go_simp; (try with_reducible rfl))
         try simp only [Act.put, List.getElem_toArray, List.getElem_cons_succ, List.getElem_cons_zero, List.setIfInBounds_toArray, List.set_cons_zero, List.set_cons_succ]
         refine wpAnyH_take (i := 9) (v := ?_) rfl (by kernel_rfl) (by kernel_rfl) (by kernel_rfl) (fun _ _ _ h => h) (Or.inl ⟨by rfl, ?_⟩) (by assumption) ?_
         rotate_left
         · (intro w hSw; (try dsimp only at hSw); go_simp; (try with_reducible rfl))
         try simp only [Act.put, List.getElem_toArray, List.getElem_cons_succ, List.getElem_cons_zero, List.setIfInBounds_toArray, List.set_cons_zero, List.set_cons_succ]
         refine wpAnyH_take (i := 10) (v := ?_) rfl (by kernel_rfl) (by kernel_rfl) (by kernel_rfl) (fun _ _ _ h => h) (Or.inl ⟨by rfl, ?_⟩) (by assumption) ?_
         rotate_left
         · (intro w hSw; (try dsimp only at hSw); go_simp; (try with_reducible rfl))
         try simp only [Act.put, List.getElem_toArray, List.getElem_cons_succ, List.getElem_cons_zero, List.setIfInBounds_toArray, List.set_cons_zero, List.set_cons_succ]
         refine wpAnyH_take (i := 11) (v := ?_) rfl (by kernel_rfl) (by kernel_rfl) (by kernel_rfl) (fun _ _ _ h => h) (Or.inl ⟨by rfl, ?_⟩) (by assumption) ?_
         rotate_left
         · (intro w hSw; (try dsimp only at hSw); go_simp; (try with_reducible rfl))
         try simp only [Act.put, List.getElem_toArray, List.getElem_cons_succ, List.getElem_cons_zero, List.setIfInBounds_toArray, List.set_cons_zero, List.set_cons_succ]
         refine wpAnyH_take (i := 12) (v := ?_) rfl (by kernel_rfl) (by kernel_rfl) (by kernel_rfl) (fun _ _ _ h => h) (Or.inl ⟨by rfl, ?_⟩) (by assumption) ?_
         rotate_left
         · (intro w hSw; (try dsimp only at hSw); go_simp; (try with_reducible rfl))
         try simp only [Act.put, List.getElem_toArray, List.getElem_cons_succ, List.getElem_cons_zero, List.setIfInBounds_toArray, List.set_cons_zero, List.set_cons_succ]
         refine wpAnyH_take (i := 13) (v := ?_) rfl (by kernel_rfl) (by kernel_rfl) (by kernel_rfl) (fun _ _ _ h => h) (Or.inl ⟨by rfl, ?_⟩) (by assumption) ?_
         rotate_left
         · (intro w hSw; (try dsimp only at hSw); go_simp; (try with_reducible rfl))
         try simp only [Act.put, List.getElem_toArray, List.getElem_cons_succ, List.getElem_cons_zero, List.setIfInBounds_toArray, List.set_cons_zero, List.set_cons_succ]
         refine wpAnyH_ready (rs := [14]) (by kernel_rfl) (by simp) ?_
         refine (AllReadyH.cons rfl (fun K hK => ?_) AllReadyH.nil)
         go_simp
         refine hK.out _ _ ⟨f1, f2⟩ (fun hHeld => ?_)
         clear hK K
         try simp only [Act.put, List.getElem_toArray, List.getElem_cons_succ, List.getElem_cons_zero, List.setIfInBounds_toArray, List.set_cons_zero, List.set_cons_succ]
         refine wpAnyH_ready (rs := [15]) (by kernel_rfl) (by simp) ?_
         refine (AllReadyH.cons rfl (fun K hK => ?_) AllReadyH.nil)
         go_simp
         refine (hDF.out _ HBW6.out.drew).mono ?_
         rintro e w7 ⟨hb7, rfl⟩
         have hR7 : Below w6.heap.size w6 w7 := (Below.refl _ _).drew.trans hb7
         have k1 := (hR7.cell (p := ⟨w.heap.size + 1, 1, none⟩) (by simp only []; omega)).trans f1
         have k2 := (hR7.cell (p := ⟨w.heap.size, i, none⟩) (by simp only []; omega)).trans f2
         have z7 := (HW6.out.below hR7).free i
         have r7 := (hR7.cell (p := ⟨gN, i, none⟩) (by simp only []; omega)).trans r1
         have l1 := (World.cell?_of_block (a := ⟨w.heap.size + 1, 1, none⟩) (heap_setCell_other w7 ⟨gN, i, none⟩ (w.heap.size + 1) (.int .i64 sv) (by simp; omega))).trans k1
         have l2 := (World.cell?_of_block (a := ⟨w.heap.size, i, none⟩) (heap_setCell_other w7 ⟨gN, i, none⟩ w.heap.size (.int .i64 sv) (by simp; omega))).trans k2
         have HR7 := Kept.mk hR7
         clear hb7 hR7
         refine hK.out _ _ ⟨k1, k2⟩ (fun hHeld => ?_)
         clear hK K
         try simp only [Act.put, List.getElem_toArray, List.getElem_cons_succ, List.getElem_cons_zero, List.setIfInBounds_toArray, List.set_cons_zero, List.set_cons_succ]
         refine wpAnyH_take (i := 16) (v := ?_) rfl (by kernel_rfl) (by kernel_rfl) (by kernel_rfl) (fun _ _ _ h => h) (Or.inl ⟨by rfl, ?_⟩) (by assumption) ?_
         rotate_left
         · (intro w hSw; (try dsimp only at hSw); go_simp; (try with_reducible rfl))
         try simp only [Act.put, List.getElem_toArray, List.getElem_cons_succ, List.getElem_cons_zero, List.setIfInBounds_toArray, List.set_cons_zero, List.set_cons_succ]
         refine wpAnyH_ready (rs := [17]) (by kernel_rfl) (by simp) ?_
         refine (AllReadyH.cons rfl (fun K hK => ?_) AllReadyH.nil)
         go_simp
         refine hK.out _ _ ⟨l1, l2⟩ (fun hHeld => ?_)
         clear hK K
         try simp only [Act.put, List.getElem_toArray, List.getElem_cons_succ, List.getElem_cons_zero, List.setIfInBounds_toArray, List.set_cons_zero, List.set_cons_succ]
         refine wpAnyH_done (by kernel_rfl) ?_ _
         obtain ⟨hat8, hg8⟩ := HNX6.out w7 HR7.out
         have HAT8 := Kept.mk hat8
         have HSN8 := Kept.mk (hsn.out.keepG hat.out.mx hg8)
         have HSI8 := Kept.mk (hsim.out.keepG hat.out.mx hg8)
         clear hat8 hg8 k1 k2 l1 l2 z7 r7 f1 f2 r1 HNX6
         go_wp2_with fail
         refine (HMU.out _ _ _ _ _ HAT8.out.bel HSN8.out HSI8.out HNQ.out HIML.out.1 (by rw [hnl.out]; omega) (by have := HIML.out.2; omega)).mono ?_
         rintro e w9 ⟨hb9, v9, rfl, hs9⟩
         have HAT9 := Kept.mk (HAT8.out.below hb9)
         have HS9 := Kept.mk hs9
         have HSI9 := Kept.mk (HSI8.out.below hb9)
         clear hb9 hs9
         go_wp2_with fail
         refine (HDV.out _ _ _ HAT9.out.bel HS9.out (FFld.mulL_lt hk _ _) (by have := HIML.out.2; have := hnl.out; have := mulL_le D (FFld.fxN hD pl im i) im; omega)).mono ?_
         rintro e wA ⟨hbA, vq, vA, rfl, hsA⟩
         have HATA := Kept.mk (HAT9.out.below hbA)
         have HSIA := Kept.mk (HSI9.out.below hbA)
         obtain ⟨aA, cA, rfl, _, _⟩ := hsA.form
         rw [FFld.ints_len] at hsA ⊢
         obtain ⟨lA, hlA⟩ : ∃ l, (FFld.fxN hD pl im (i + 1)).length = l := ⟨_, rfl⟩
         have HSA : Kept (Sl .i64 wA (.slice aA lA cA) (ints (FFld.fxN hD pl im (i + 1)))) := ⟨by rw [← hlA]; exact hsA⟩
         have elA : (FFld.rstF D pl (FFld.invT D hD.pre.pk pl) (FFld.mulL D (FFld.fxN hD pl im i) im)).length = lA := hlA
         rw [elA]
         have HLA := Kept.mk hlA
         clear hbA hsA hlA elA
         go_wp2
         go_roundw
         case rel => exact ⟨i + 1, _, aA, lA, cA, by omega, by go_num, rfl, HLA, HSA, HSIA, HATA⟩
         case measure => simp [intOf] <;> omega)
    · obtain rfl : i = n := by omega
      obtain ⟨k, hkk⟩ : ∃ k, (FFld.elimF D hD.pre.pk ⟨FFld.fxM hD pl im i, List.replicate i [], []⟩ i).cols.length = k := ⟨_, rfl⟩
      have HKK := Kept.mk hkk
      have hki : k ≤ i := by rw [← hkk]; exact HKC.out
      have HVAL : Kept (L.map RH.xs = FFld.fxM hD pl im i) := ⟨hat.out.done⟩
      have HRK : Kept (i - k = 1 ↔ FFld.OnlyC hD pl) := ⟨by rw [← hkk]; exact HRN1.out⟩
      have hbx : w.heap.size + 1 < wr.heap.size := (Array.getElem?_eq_some_iff.1 hat.out.box).1
      have HEL := HEL1
      have ewk : IntKind.i64.wrap ((i : Int) - (k : Int)) = ((i - k : Nat) : Int) := by rw [IntKind.wrap_i64]; omega
      clear hkk
      go_wp2
      refine wp_region_held_drew (S := fun _ => True) (by kernel_rfl) trivial (fun hHeld => ?_)
      refine wpAnyH_take (i := 0) (v := ?_) rfl (by kernel_rfl) (by kernel_rfl) (by kernel_rfl) (fun _ _ _ h => h) (Or.inl ⟨by rfl, ?_⟩) (by assumption) ?_
      rotate_left
      · (intro w hSw; (try dsimp only at hSw); go_simp; (try with_reducible rfl))
      try simp only [Act.put, List.getElem_toArray, List.getElem_cons_succ, List.getElem_cons_zero, List.setIfInBounds_toArray, List.set_cons_zero, List.set_cons_succ]
      refine wpAnyH_take (i := 2) (v := ?_) rfl (by kernel_rfl) (by kernel_rfl) (by kernel_rfl) (fun _ _ _ h => h) (Or.inl ⟨by rfl, ?_⟩) (by assumption) ?_
      rotate_left
      · (intro w hSw; (try dsimp only at hSw); go_simp; (try with_reducible rfl))
      try simp only [Act.put, List.getElem_toArray, List.getElem_cons_succ, List.getElem_cons_zero, List.setIfInBounds_toArray, List.set_cons_zero, List.set_cons_succ]
      refine wpAnyH_take (i := 3) (v := ?_) rfl (by kernel_rfl) (by kernel_rfl) (by kernel_rfl) (fun _ _ _ h => h) (Or.inl ⟨by rfl, ?_⟩) (by assumption) ?_
      rotate_left
      · (intro w hSw; (try dsimp only at hSw); go_simp; (try with_reducible rfl))
      try simp only [Act.put, List.getElem_toArray, List.getElem_cons_succ, List.getElem_cons_zero, List.setIfInBounds_toArray, List.set_cons_zero, List.set_cons_succ]
      refine wpAnyH_ready (rs := [1, 4]) (by kernel_rfl) (by simp) ?_
      refine AllReadyH.cons rfl (fun K hK => ?_) (AllReadyH.cons rfl (fun K hK => ?_) AllReadyH.nil)
      · go_simp
        refine hK.out _ _ trivial (fun hHeld => ?_)
        clear hK K
        try simp only [Act.put, List.getElem_toArray, List.getElem_cons_succ, List.getElem_cons_zero, List.setIfInBounds_toArray, List.set_cons_zero, List.set_cons_succ]
        refine wpAnyH_ready (rs := [4]) (by kernel_rfl) (by simp) ?_
        refine (AllReadyH.cons rfl (fun K hK => ?_) AllReadyH.nil)
        go_simp
        refine (HUR.out _).mono ?_
        rintro e w2 ⟨hb2, G2, rfl, ho2⟩
        have hR2 : Below wr.heap.size wr w2 := (Below.refl _ _).drew.trans hb2
        have hat2 := hat.out.below hR2
        have hbW2 := hat2.bel
        have hs2 := ho2.mx.lt
        have hlo2 : wr.heap.size ≤ G2 := ho2.lo
        have hGr := hat.out.mx.lt
        have hPr : Pr w.heap.size w2.heap.size w2 w.heap.size G2 L (List.replicate i RH.nil) := { b1 := Nat.le_refl _, b2 := by omega, b3 := hs2, r1 := fun r hr g e => ⟨by have := hat.out.low r hr g e; omega, by have := (hat.out.mx.ok r hr).lt e; omega⟩, r2 := fun r hr g e => (by rw [List.eq_of_mem_replicate hr] at e; cases e), d1 := hat.out.dis, d2 := dis_rep i, m1 := hat2.mx, m2 := ho2.mx }
        have k0 := (hR2.cell (p := ⟨w.heap.size + 1, 0, none⟩) (by simp only []; omega)).trans c0
        have k1 := (hR2.cell (p := ⟨w.heap.size + 1, 1, none⟩) (by simp only []; omega)).trans c1
        clear hb2 hR2 hat2 ho2
        refine hK.out _ _ trivial (fun hHeld => ?_)
        clear hK K
        try simp only [Act.put, List.getElem_toArray, List.getElem_cons_succ, List.getElem_cons_zero, List.setIfInBounds_toArray, List.set_cons_zero, List.set_cons_succ]
        refine wpAnyH_take (i := 5) (v := ?_) rfl (by kernel_rfl) (by kernel_rfl) (by kernel_rfl) (fun _ _ _ h => h) (Or.inl ⟨by rfl, ?_⟩) (by assumption) ?_
        rotate_left
        · (intro w hSw; (try dsimp only at hSw); go_simp; (try with_reducible rfl))
        try simp only [Act.put, List.getElem_toArray, List.getElem_cons_succ, List.getElem_cons_zero, List.setIfInBounds_toArray, List.set_cons_zero, List.set_cons_succ]
        refine wpAnyH_ready (rs := [6]) (by kernel_rfl) (by simp) ?_
        refine (AllReadyH.cons rfl (fun K hK => ?_) AllReadyH.nil)
        go_simp
        refine (HEL.out G2 L w2 hbW2 hPr HVAL.out).mono ?_
        rintro e w3 ⟨vc, rfl, hes⟩
        have hcg := hes.chg
        have HB3 := Kept.mk (hcg.below hbW2)
        have hcm := hes.colsM
        obtain ⟨ac, cc, rfl, hcc, hcx⟩ := hcm.sl.form
        rw [FFld.ints_len, HKK.out] at hcc ⊢
        clear hes hcg hcm
        refine hK.out _ _ trivial (fun hHeld => ?_)
        clear hK K
        try simp only [Act.put, List.getElem_toArray, List.getElem_cons_succ, List.getElem_cons_zero, List.setIfInBounds_toArray, List.set_cons_zero, List.set_cons_succ]
        refine wpAnyH_take (i := 7) (v := ?_) rfl (by kernel_rfl) (by kernel_rfl) (by kernel_rfl) (fun _ _ _ h => h) (Or.inl ⟨by rfl, ?_⟩) (by assumption) ?_
        rotate_left
        · (intro w hSw; (try dsimp only at hSw); go_simp; (try with_reducible rfl))
        try simp only [Act.put, List.getElem_toArray, List.getElem_cons_succ, List.getElem_cons_zero, List.setIfInBounds_toArray, List.set_cons_zero, List.set_cons_succ]
        refine wpAnyH_take (i := 8) (v := ?_) rfl (by kernel_rfl) (by kernel_rfl) (by kernel_rfl) (fun _ _ _ h => h) (Or.inl ⟨by rfl, ?_⟩) (by assumption) ?_
        rotate_left
        · (intro w hSw; (try dsimp only at hSw); go_simp; (try with_reducible rfl))
        try simp only [Act.put, List.getElem_toArray, List.getElem_cons_succ, List.getElem_cons_zero, List.setIfInBounds_toArray, List.set_cons_zero, List.set_cons_succ]
        refine wpAnyH_take (i := 9) (v := ?_) rfl (by kernel_rfl) (by kernel_rfl) (by kernel_rfl) (fun _ _ _ h => h) (Or.inl ⟨by rfl, ?_⟩) (by assumption) ?_
        rotate_left
        · (intro w hSw; (try dsimp only at hSw); go_simp; (try with_reducible rfl))
        try simp only [Act.put, List.getElem_toArray, List.getElem_cons_succ, List.getElem_cons_zero, List.setIfInBounds_toArray, List.set_cons_zero, List.set_cons_succ]
        refine wpAnyH_done (by kernel_rfl) ?_ _
        go_wp2
        go_ret
        exact ⟨HB3.out, i - k, by omega, rfl, HRK.out⟩
      · go_simp
        refine (HUR.out _).mono ?_
        rintro e w2 ⟨hb2, G2, rfl, ho2⟩
        have hR2 : Below wr.heap.size wr w2 := (Below.refl _ _).drew.trans hb2
        have hat2 := hat.out.below hR2
        have hbW2 := hat2.bel
        have hs2 := ho2.mx.lt
        have hlo2 : wr.heap.size ≤ G2 := ho2.lo
        have hGr := hat.out.mx.lt
        have hPr : Pr w.heap.size w2.heap.size w2 w.heap.size G2 L (List.replicate i RH.nil) := { b1 := Nat.le_refl _, b2 := by omega, b3 := hs2, r1 := fun r hr g e => ⟨by have := hat.out.low r hr g e; omega, by have := (hat.out.mx.ok r hr).lt e; omega⟩, r2 := fun r hr g e => (by rw [List.eq_of_mem_replicate hr] at e; cases e), d1 := hat.out.dis, d2 := dis_rep i, m1 := hat2.mx, m2 := ho2.mx }
        have k0 := (hR2.cell (p := ⟨w.heap.size + 1, 0, none⟩) (by simp only []; omega)).trans c0
        have k1 := (hR2.cell (p := ⟨w.heap.size + 1, 1, none⟩) (by simp only []; omega)).trans c1
        clear hb2 hR2 hat2 ho2
        refine hK.out _ _ trivial (fun hHeld => ?_)
        clear hK K
        try simp only [Act.put, List.getElem_toArray, List.getElem_cons_succ, List.getElem_cons_zero, List.setIfInBounds_toArray, List.set_cons_zero, List.set_cons_succ]
        refine wpAnyH_ready (rs := [1]) (by kernel_rfl) (by simp) ?_
        refine (AllReadyH.cons rfl (fun K hK => ?_) AllReadyH.nil)
        go_simp
        refine hK.out _ _ trivial (fun hHeld => ?_)
        clear hK K
        try simp only [Act.put, List.getElem_toArray, List.getElem_cons_succ, List.getElem_cons_zero, List.setIfInBounds_toArray, List.set_cons_zero, List.set_cons_succ]
        refine wpAnyH_take (i := 5) (v := ?_) rfl (by kernel_rfl) (by kernel_rfl) (by kernel_rfl) (fun _ _ _ h => h) (Or.inl ⟨by rfl, ?_⟩) (by assumption) ?_
        rotate_left
        · (intro w hSw; (try dsimp only at hSw); go_simp; (try with_reducible rfl))
        try simp only [Act.put, List.getElem_toArray, List.getElem_cons_succ, List.getElem_cons_zero, List.setIfInBounds_toArray, List.set_cons_zero, List.set_cons_succ]
        refine wpAnyH_ready (rs := [6]) (by kernel_rfl) (by simp) ?_
        refine (AllReadyH.cons rfl (fun K hK => ?_) AllReadyH.nil)
        go_simp
        refine (HEL.out G2 L w2 hbW2 hPr HVAL.out).mono ?_
        rintro e w3 ⟨vc, rfl, hes⟩
        have hcg := hes.chg
        have HB3 := Kept.mk (hcg.below hbW2)
        have hcm := hes.colsM
        obtain ⟨ac, cc, rfl, hcc, hcx⟩ := hcm.sl.form
        rw [FFld.ints_len, HKK.out] at hcc ⊢
        clear hes hcg hcm
        refine hK.out _ _ trivial (fun hHeld => ?_)
        clear hK K
        try simp only [Act.put, List.getElem_toArray, List.getElem_cons_succ, List.getElem_cons_zero, List.setIfInBounds_toArray, List.set_cons_zero, List.set_cons_succ]
        refine wpAnyH_take (i := 7) (v := ?_) rfl (by kernel_rfl) (by kernel_rfl) (by kernel_rfl) (fun _ _ _ h => h) (Or.inl ⟨by rfl, ?_⟩) (by assumption) ?_
        rotate_left
        · (intro w hSw; (try dsimp only at hSw); go_simp; (try with_reducible rfl))
        try simp only [Act.put, List.getElem_toArray, List.getElem_cons_succ, List.getElem_cons_zero, List.setIfInBounds_toArray, List.set_cons_zero, List.set_cons_succ]
        refine wpAnyH_take (i := 8) (v := ?_) rfl (by kernel_rfl) (by kernel_rfl) (by kernel_rfl) (fun _ _ _ h => h) (Or.inl ⟨by rfl, ?_⟩) (by assumption) ?_
        rotate_left
        · (intro w hSw; (try dsimp only at hSw); go_simp; (try with_reducible rfl))
        try simp only [Act.put, List.getElem_toArray, List.getElem_cons_succ, List.getElem_cons_zero, List.setIfInBounds_toArray, List.set_cons_zero, List.set_cons_succ]
        refine wpAnyH_take (i := 9) (v := ?_) rfl (by kernel_rfl) (by kernel_rfl) (by kernel_rfl) (fun _ _ _ h => h) (Or.inl ⟨by rfl, ?_⟩) (by assumption) ?_
        rotate_left
        · (intro w hSw; (try dsimp only at hSw); go_simp; (try with_reducible rfl))
        try simp only [Act.put, List.getElem_toArray, List.getElem_cons_succ, List.getElem_cons_zero, List.setIfInBounds_toArray, List.set_cons_zero, List.set_cons_succ]
        refine wpAnyH_done (by kernel_rfl) ?_ _
        go_wp2
        go_ret
        exact ⟨HB3.out, i - k, by omega, rfl, HRK.out⟩
end Go.Proofs.Ytfhhnfpapgfnmaa
