/-
  Texts of the proof, merged by program: Orb Nrm Now.
-/
import Derived.Test.YtfhhnfpapgfnmaaZFxw
import Derived.Test.YtfhhnfpapgfnmaaZRtn
import Derived.Test.YtfhhnfpapgfnmaaZHor
import Derived.Test.YtfhhnfpapgfnmaaZ19
import Derived.Test.YtfhhnfpapgfnmaaZLca
set_option linter.unusedVariables false
set_option linter.unusedSimpArgs false
set_option linter.unusedSectionVars false
namespace Go.Proofs.Ytfhhnfpapgfnmaa
namespace FFld
/-- A map that keeps sums and products. -/
structure Hm {α β : Type} (F : Dom α) (G : Dom β) (φ : α → β) : Prop where
  add : ∀ a b, φ (F.add a b) = G.add (φ a) (φ b)
  mul : ∀ a b, φ (F.mul a b) = G.mul (φ a) (φ b)
  zero : φ F.zero = G.zero
  one : φ F.one = G.one
namespace Hm
variable {α β : Type} {F : Dom α} {G : Dom β} {φ : α → β} (h : Hm F G φ)
include h
theorem sm (f : Nat → α) : ∀ n, φ (F.sm f n) = G.sm (fun i => φ (f i)) n
  | 0 => h.zero
  | n + 1 => by
    show φ (F.add (F.sm f n) (f n)) = G.add (G.sm (fun i => φ (f i)) n) (φ (f n))
    rw [h.add, Hm.sm f n]
theorem neg (a : α) : φ (F.neg a) = G.neg (φ a) := G.neg_unique (by rw [← h.add, F.add_neg, h.zero])
/-- The same map on coefficients. -/
def on (_ : Hm F G φ) (f : Nat → α) : Nat → β := fun i => φ (f i)
theorem on_mul (f g : Nat → α) : h.on (F.ser.mul f g) = G.ser.mul (h.on f) (h.on g) := by
  funext n
  show φ (F.cv f g n) = G.cv (fun i => φ (f i)) (fun i => φ (g i)) n
  unfold Dom.cv
  rw [h.sm]
  exact G.sm_congr _ fun i _ => h.mul _ _
theorem on_add (f g : Nat → α) : h.on (F.ser.add f g) = G.ser.add (h.on f) (h.on g) := funext fun n => h.add _ _
theorem on_mon1 (a : α) (k : Nat) : h.on (F.mon1 a k) = G.mon1 (φ a) k := by
  funext i
  show φ (if i = k then a else F.zero) = if i = k then φ a else G.zero
  split
  · rfl
  · exact h.zero
theorem on_sh {f : Nat → α} {n : Nat} (hf : F.Sh f n) : G.Sh (h.on f) n := fun i hi => by
  show φ (f i) = _
  rw [hf i hi, h.zero]
theorem on_pl {f : Nat → α} (hf : F.Pl f) : G.Pl (h.on f) := by
  obtain ⟨n, hn⟩ := hf
  exact ⟨n, h.on_sh hn⟩
theorem on_dv {f g : Nat → α} (hd : F.Dv g f) : G.Dv (h.on g) (h.on f) := by
  obtain ⟨s, hs, rfl⟩ := hd
  exact ⟨h.on s, h.on_pl hs, h.on_mul s g⟩
theorem on_one : h.on F.ser.one = G.ser.one := by
  have := h.on_mon1 F.one 0
  rw [h.one] at this
  exact this
end Hm
section
variable {α : Type} {F : Dom α}
/-- x - r. -/
def lin (F : Dom α) (r : α) : Nat → α := F.ser.add (xx F) (F.mon1 (F.neg r) 0)
theorem lin_dg (r : α) : F.Dg (lin F r) 1 := by
  refine ⟨Dom.Sh.add F (F.mon1_sh F.one 1) (Dom.Sh.mono F (F.mon1_sh _ 0) (by omega)), ?_⟩
  show F.add (if 1 = 1 then F.one else F.zero) (if 1 = 0 then F.neg r else F.zero) ≠ F.zero
  rw [if_pos rfl, if_neg (by omega), F.add_zero]
  exact F.one_ne
theorem lin_ird (r : α) : F.Ird (lin F r) 1 := by
  refine ⟨lin_dg r, Nat.le_refl _, fun h e hh hd => ?_⟩
  obtain ⟨s, m, hm, es, en⟩ := Dom.Dv.cof F hh (lin_dg r) hd
  omega
theorem const_sh (a : α) : F.Sh (F.mon1 a 0) 1 := F.mon1_sh a 0
theorem const_pl (a : α) : F.Pl (F.mon1 a 0) := ⟨1, const_sh a⟩
theorem const_zero {r c : α} (h : F.Dv (lin F r) (F.mon1 c 0)) : c = F.zero := by
  have := congrFun (Dom.Dv.small F (lin_dg r) h (const_sh c)) 0
  simpa [Dom.mon1, Dom.ser] using this
theorem lin_x (r : α) : Eqv F (lin F r) (xx F) (F.mon1 r 0) := by
  show F.Dv (lin F r) (F.ser.add (xx F) (F.ser.neg (F.mon1 r 0)))
  have e : F.ser.neg (F.mon1 r 0) = F.mon1 (F.neg r) 0 := by
    funext i
    show F.neg (if i = 0 then r else F.zero) = if i = 0 then F.neg r else F.zero
    split
    · rfl
    · exact Dom.neg_zero _
  rw [e]
  exact Dom.Dv.self F _
theorem lin_eq {r s : α} (h : F.Dv (lin F r) (lin F s)) : r = s := by
  have h1 : Eqv F (lin F r) (lin F s) (F.mon1 (F.add r (F.neg s)) 0) := by
    rw [emb_ser.add]
    exact Eqv.add (lin_x r) (Eqv.refl _)
  exact F.eq_of_sub (const_zero (Eqv.dv h1 (Dom.Dv.self F _) h))
/-- The product of x less each of the first j. -/
def lins (F : Dom α) (c : Nat → α) : Nat → Nat → α
  | 0 => F.ser.one
  | j + 1 => F.ser.mul (lins F c j) (lin F (c j))
theorem lins_dg (c : Nat → α) : ∀ j, F.Dg (lins F c j) j
  | 0 => ⟨Dom.one_sh F, by show (if 0 = 0 then F.one else F.zero) ≠ F.zero; rw [if_pos rfl]; exact F.one_ne⟩
  | j + 1 => Dom.Dg.mul F (lins_dg c j) (lin_dg (c j))
theorem lins_dv (c : Nat → α) {i : Nat} : ∀ j, i < j → F.Dv (lin F (c i)) (lins F c j)
  | 0, h => by omega
  | j + 1, h => by
    by_cases e : i = j
    · subst e
      exact ⟨_, Dom.Dg.pl F (lins_dg c i), rfl⟩
    · have h1 := lins_dv c (i := i) j (by omega)
      show F.Dv _ (F.ser.mul (lins F c j) (lin F (c j)))
      rw [F.ser.mul_comm]
      exact Dom.Dv.mul F h1 (Dom.Dg.pl F (lin_dg (c j)))
theorem lins_prime (hI : F.Inv) (c : Nat → α) {r : α} : ∀ j, F.Dv (lin F r) (lins F c j) → ∃ i, i < j ∧ c i = r
  | 0, h => by
    have e : F.ser.one = F.mon1 F.one 0 := rfl
    have : F.Dv (lin F r) F.ser.one := h
    rw [e] at this
    exact absurd (const_zero this) F.one_ne
  | j + 1, h => by
    have h' : F.Dv (lin F r) (F.ser.mul (lins F c j) (lin F (c j))) := h
    rcases F.prime_dv hI (lin_ird r) (Dom.Dg.pl F (lins_dg c j)) (Dom.Dg.pl F (lin_dg (c j))) h' with h1 | h1
    · obtain ⟨i, hi, e⟩ := lins_prime hI c j h1
      exact ⟨i, by omega, e⟩
    · exact ⟨j, by omega, (lin_eq h1).symm⟩
/-- Different linear factors divide together. -/
theorem lins_of (hI : F.Inv) {c : Nat → α} {f : Nat → α} : ∀ j, (∀ i k, i < k → k < j → c i ≠ c k) → (∀ i, i < j → F.Dv (lin F (c i)) f) → F.Pl f → F.Dv (lins F c j) f
  | 0, _, _, hf => ⟨f, hf, (F.ser.mul_one f).symm⟩
  | j + 1, hc, hd, hf => by
    obtain ⟨s, hs, e⟩ := lins_of hI j (fun i k h1 h2 => hc i k h1 (by omega)) (fun i hi => hd i (by omega)) hf
    have h1 := hd j (by omega)
    rw [e] at h1
    rcases F.prime_dv hI (lin_ird (c j)) hs (Dom.Dg.pl F (lins_dg c j)) h1 with h2 | h2
    · obtain ⟨u, hu, rfl⟩ := h2
      refine ⟨u, hu, ?_⟩
      rw [e]
      show _ = F.ser.mul u (F.ser.mul (lins F c j) (lin F (c j)))
      rw [F.ser.mul_assoc, F.ser.mul_comm (lin F (c j))]
    · obtain ⟨i, hi, e2⟩ := lins_prime hI c j h2
      exact absurd e2 (hc i j hi (by omega))
theorem lins_congr {c c' : Nat → α} : ∀ j, (∀ i, i < j → c i = c' i) → lins F c j = lins F c' j
  | 0, _ => rfl
  | j + 1, h => by
    show F.ser.mul (lins F c j) (lin F (c j)) = F.ser.mul (lins F c' j) (lin F (c' j))
    rw [lins_congr j fun i hi => h i (by omega), h j (by omega)]
theorem lins_front (c : Nat → α) : ∀ j, lins F c (j + 1) = F.ser.mul (lin F (c 0)) (lins F (fun i => c (i + 1)) j)
  | 0 => by
    show F.ser.mul F.ser.one (lin F (c 0)) = F.ser.mul (lin F (c 0)) F.ser.one
    rw [F.ser.mul_comm]
  | j + 1 => by
    show F.ser.mul (lins F c (j + 1)) (lin F (c (j + 1))) = F.ser.mul (lin F (c 0)) (F.ser.mul (lins F (fun i => c (i + 1)) j) (lin F (c (j + 1))))
    rw [lins_front c j, F.ser.mul_assoc]
/-- Turned by one place. -/
theorem lins_turn (c : Nat → α) {t : Nat} (h : c t = c 0) : lins F (fun i => c (i + 1)) t = lins F c t := by
  have h1 := lins_front (F := F) c t
  have h2 : lins F c (t + 1) = F.ser.mul (lins F c t) (lin F (c t)) := rfl
  rw [h2, h, F.ser.mul_comm] at h1
  exact (F.ser.mul_left_cancel (Dom.Dg.ne F (lin_dg (c 0))) h1).symm
theorem Hm.on_lin {σ : α → α} (h : Hm F F σ) (r : α) : h.on (lin F r) = lin F (σ r) := by
  unfold lin xx
  rw [h.on_add, h.on_mon1, h.on_mon1, h.one, h.neg]
theorem Hm.on_lins {σ : α → α} (h : Hm F F σ) (c : Nat → α) : ∀ j, h.on (lins F c j) = lins F (fun i => σ (c i)) j
  | 0 => h.on_one
  | j + 1 => by
    show h.on (F.ser.mul (lins F c j) (lin F (c j))) = F.ser.mul (lins F (fun i => σ (c i)) j) (lin F (σ (c j)))
    rw [h.on_mul, Hm.on_lins h c j, h.on_lin]
/-- An orbit's polynomial is fixed. -/
theorem orbit_fixed {σ : α → α} (h : Hm F F σ) {c : Nat → α} {t : Nat} (hc : ∀ i, σ (c i) = c (i + 1)) (ht : c t = c 0) : h.on (lins F c t) = lins F c t := by
  rw [h.on_lins]
  have : (fun i => σ (c i)) = fun i => c (i + 1) := funext hc
  rw [this]
  exact lins_turn c ht
/-- What one root of a fixed polynomial is, all of its orbit are. -/
theorem orbit_dv {σ : α → α} (h : Hm F F σ) {c : Nat → α} (hc : ∀ i, σ (c i) = c (i + 1)) {u : Nat → α} (hu : h.on u = u) (h0 : F.Dv (lin F (c 0)) u) : ∀ i, F.Dv (lin F (c i)) u
  | 0 => h0
  | i + 1 => by
    have := h.on_dv (orbit_dv h hc hu h0 i)
    rw [h.on_lin, hu, hc] at this
    exact this
/-- An orbit's polynomial is irreducible over the fixed field. -/
theorem orbit_ird {β : Type} {F' : Dom β} {φ : β → α} (hφ : Hm F' F φ) (hinj : ∀ a, φ a = F.zero → a = F'.zero) (hI : F.Inv) {σ : α → α} (h : Hm F F σ) (hfix : ∀ a, σ (φ a) = φ a) {c : Nat → α} (hc : ∀ i, σ (c i) = c (i + 1)) {t : Nat} (ht1 : 1 ≤ t) (hne : ∀ i k, i < k → k < t → c i ≠ c k) {g : Nat → β} (hg : F'.Dg g t) (he : hφ.on g = lins F c t) : F'.Ird g t := by
  refine ⟨hg, ht1, fun k e hk hd => ?_⟩
  obtain ⟨s, m, hm, es, en⟩ := Dom.Dv.cof F' hk hg hd
  have hon : ∀ u : Nat → β, h.on (hφ.on u) = hφ.on u := fun u => funext fun i => hfix _
  have big : ∀ (u : Nat → β) (n : Nat), F'.Dg u n → F.Dv (lin F (c 0)) (hφ.on u) → t ≤ n := fun u n hu h0 => by
    have h1 := lins_of hI t hne (fun i _ => orbit_dv h hc (hon u) h0 i) (hφ.on_pl (Dom.Dg.pl F' hu))
    apply Classical.byContradiction
    intro hlt
    have h2 := Dom.Dv.small F (lins_dg c t) h1 (Dom.Sh.mono F (hφ.on_sh hu.1) (by omega))
    exact hu.2 (hinj _ (congrFun h2 n))
  have h1 : F.Dv (lin F (c 0)) (F.ser.mul (hφ.on s) (hφ.on k)) := by
    rw [← hφ.on_mul, ← es, he]
    exact lins_dv c t ht1
  rcases F.prime_dv hI (lin_ird (c 0)) (hφ.on_pl (Dom.Dg.pl F' hm)) (hφ.on_pl (Dom.Dg.pl F' hk)) h1 with h2 | h2
  · have := big s m hm h2
    omega
  · have := big k e hk h2
    omega
end
end FFld
end Go.Proofs.Ytfhhnfpapgfnmaa

set_option linter.unusedVariables false
set_option linter.unusedSimpArgs false
set_option linter.unusedSectionVars false
namespace Go.Proofs.Ytfhhnfpapgfnmaa
namespace FFld
/-! Sums and products of turned rows. -/
section
variable {α : Type} {F : Dom α}
theorem sm_turn (f : Nat → α) : ∀ n, F.add (F.sm (fun i => f (i + 1)) n) (f 0) = F.add (F.sm f n) (f n)
  | 0 => rfl
  | n + 1 => by
    show F.add (F.add (F.sm (fun i => f (i + 1)) n) (f (n + 1))) (f 0) = F.add (F.add (F.sm f n) (f n)) (f (n + 1))
    rw [← sm_turn f n, F.add_assoc, F.add_comm (f (n + 1)), ← F.add_assoc]
theorem sm_turned (f : Nat → α) {n : Nat} (h : f n = f 0) : F.sm (fun i => f (i + 1)) n = F.sm f n := by
  have := sm_turn (F := F) f n
  rw [h, F.add_comm, F.add_comm (F.sm f n)] at this
  exact F.add_left_cancel this
/-- The product of the first n. -/
def pr (F : Dom α) (f : Nat → α) : Nat → α
  | 0 => F.one
  | n + 1 => F.mul (pr F f n) (f n)
theorem pr_turn (f : Nat → α) : ∀ n, F.mul (pr F (fun i => f (i + 1)) n) (f 0) = F.mul (pr F f n) (f n)
  | 0 => rfl
  | n + 1 => by
    show F.mul (F.mul (pr F (fun i => f (i + 1)) n) (f (n + 1))) (f 0) = F.mul (F.mul (pr F f n) (f n)) (f (n + 1))
    rw [← pr_turn f n, F.mul_assoc, F.mul_comm (f (n + 1)), ← F.mul_assoc]
theorem pr_zero {f : Nat → α} {j : Nat} (h : f j = F.zero) : ∀ n, j < n → pr F f n = F.zero
  | 0, hn => by omega
  | n + 1, hn => by
    show F.mul (pr F f n) (f n) = _
    by_cases e : j = n
    · rw [← e, h, F.mul_zero]
    · rw [pr_zero h n (by omega), F.zero_mul]
theorem pr_turned (f : Nat → α) {n : Nat} (h : f n = f 0) (hz : f 0 = F.zero → ∀ i, f i = F.zero) : pr F (fun i => f (i + 1)) n = pr F f n := by
  by_cases h0 : f 0 = F.zero
  · cases n with
    | zero => rfl
    | succ n => rw [pr_zero (j := 0) (hz h0 1) _ (by omega), pr_zero (j := 0) h0 _ (by omega)]
  · have := pr_turn (F := F) f n
    rw [h, F.mul_comm, F.mul_comm (pr F f n)] at this
    exact F.mul_left_cancel h0 this
theorem pr_mul (f g : Nat → α) : ∀ n, pr F (fun i => F.mul (f i) (g i)) n = F.mul (pr F f n) (pr F g n)
  | 0 => (F.mul_one _).symm
  | n + 1 => by
    show F.mul (pr F (fun i => F.mul (f i) (g i)) n) (F.mul (f n) (g n)) = F.mul (F.mul (pr F f n) (f n)) (F.mul (pr F g n) (g n))
    rw [pr_mul f g n, F.mul_assoc, F.mul_assoc, ← F.mul_assoc (pr F g n), F.mul_comm (pr F g n), F.mul_assoc]
theorem pr_congr {f g : Nat → α} (h : ∀ i, f i = g i) (n : Nat) : pr F f n = pr F g n := by rw [funext h]
theorem Hm.pr {σ : α → α} (h : Hm F F σ) (f : Nat → α) : ∀ n, σ (pr F f n) = pr F (fun i => σ (f i)) n
  | 0 => h.one
  | n + 1 => by
    show σ (F.mul (FFld.pr F f n) (f n)) = F.mul (FFld.pr F (fun i => σ (f i)) n) (σ (f n))
    rw [h.mul, Hm.pr h f n]
theorem lins_top (c : Nat → α) : ∀ j, lins F c j j = F.one
  | 0 => by
    show (if 0 = 0 then F.one else F.zero) = F.one
    rw [if_pos rfl]
  | j + 1 => by
    show F.ser.mul (lins F c j) (lin F (c j)) (j + 1) = F.one
    rw [F.top_mul (lins_dg c j).1 (lin_dg (c j)).1, lins_top c j, F.one_mul]
    show F.add (if 1 = 1 then F.one else F.zero) (if 1 = 0 then F.neg (c j) else F.zero) = F.one
    rw [if_pos rfl, if_neg (by omega), F.add_zero]
end
section
variable {D : FD} (hD : D.Ok)
theorem toE_mk {a : Nat} (ha : a < D.p ^ D.k) : toE hD.pre.pk a = ⟨a, ha⟩ := dif_pos ha
theorem toE_self (x : El (D.p ^ D.k)) : toE hD.pre.pk x.1 = x := dif_pos x.2
theorem toE_pow {a : Nat} (ha : a < D.p ^ D.k) (n : Nat) : toE hD.pre.pk (ppow hD.pre.pk a n) = (FD.dom hD.nzd).pow (toE hD.pre.pk a) n := by
  apply Subtype.ext
  rw [toE_val _ (ppow_lt _ _ _), dom_pow hD.nzd, ppow_of _ _ _ ha, toE_mk hD ha]
/-- Frobenius' map. -/
def frb (x : El (D.p ^ D.k)) : El (D.p ^ D.k) := (FD.dom hD.nzd).pow x D.p
theorem frb_hm : Hm (FD.dom hD.nzd) (FD.dom hD.nzd) (frb hD) where
  add a b := (dom_chr hD).frob a b
  mul a b := Dom.mul_pow _ a b D.p
  zero := Dom.zero_pow _ hD.pre.pk.p0
  one := Dom.one_pow _ D.p
/-- The conjugates. -/
def cj (a : Nat) (i : Nat) : El (D.p ^ D.k) := toE hD.pre.pk (cjg hD.pre.pk a i)
theorem cj_next {a : Nat} (ha : a < D.p ^ D.k) (i : Nat) : frb hD (cj hD a i) = cj hD a (i + 1) := (toE_pow hD (cjg_lt _ a ha i) D.p).symm
theorem cj_pow {a : Nat} (ha : a < D.p ^ D.k) : ∀ i, cj hD a i = (FD.dom hD.nzd).pow (toE hD.pre.pk a) (D.p ^ i)
  | 0 => by rw [Nat.pow_zero, Dom.pow_one]; rfl
  | i + 1 => by rw [← cj_next hD ha, cj_pow ha i, Nat.pow_succ, Dom.pow_mul]; rfl
theorem cj_k {a : Nat} (ha : a < D.p ^ D.k) : cj hD a D.k = cj hD a 0 := by
  rw [cj_pow hD ha]
  have := (dom_els hD).pow (toE hD.pre.pk a)
  rw [els_len hD] at this
  exact this
theorem cjg_k {a : Nat} (ha : a < D.p ^ D.k) : cjg hD.pre.pk a D.k = a := toE_inj hD.pre.pk (cjg_lt _ a ha _) ha (cj_k hD ha)
theorem cjg_t {a t : Nat} (ha : a < D.p ^ D.k) (ht : MinT hD.pre.pk a t) : cjg hD.pre.pk a t = a := by
  rcases Nat.lt_or_ge t D.k with h | h
  · exact ht.2.2.2 h
  · have : t = D.k := by have := ht.2.1; omega
    rw [this]
    exact cjg_k hD ha
theorem cjg_shift {a i j : Nat} (h : cjg hD.pre.pk a i = cjg hD.pre.pk a j) : ∀ d, cjg hD.pre.pk a (i + d) = cjg hD.pre.pk a (j + d)
  | 0 => h
  | d + 1 => by
    show ppow hD.pre.pk (cjg hD.pre.pk a (i + d)) D.p = ppow hD.pre.pk (cjg hD.pre.pk a (j + d)) D.p
    rw [cjg_shift h d]
theorem cjg_ne {a t : Nat} (ha : a < D.p ^ D.k) (ht : MinT hD.pre.pk a t) {i j : Nat} (hij : i < j) (hj : j < t) : cjg hD.pre.pk a i ≠ cjg hD.pre.pk a j := fun e => by
  have := cjg_shift hD e (t - j)
  rw [show j + (t - j) = t by omega, cjg_t hD ha ht] at this
  exact ht.2.2.1 _ (by omega) (by omega) this
theorem cjg_per {a t : Nat} (ha : a < D.p ^ D.k) (ht : MinT hD.pre.pk a t) (r : Nat) : ∀ n, cjg hD.pre.pk a (t * n + r) = cjg hD.pre.pk a r
  | 0 => by rw [Nat.mul_zero, Nat.zero_add]
  | n + 1 => by
    have h0 : cjg hD.pre.pk a t = cjg hD.pre.pk a 0 := cjg_t hD ha ht
    have := cjg_shift hD h0 (t * n + r)
    rw [Nat.zero_add, cjg_per ha ht r n] at this
    rw [Nat.mul_succ, ← this]
    congr 1
    omega
theorem minT_dvd {a t : Nat} (ha : a < D.p ^ D.k) (ht : MinT hD.pre.pk a t) : D.k % t = 0 := by
  apply Classical.byContradiction
  intro h0
  have h1 := ht.1
  have h2 : D.k % t < t := Nat.mod_lt _ (by omega)
  have h3 := cjg_per hD ha ht (D.k % t) (D.k / t)
  rw [Nat.div_add_mod, cjg_k hD ha] at h3
  exact ht.2.2.1 _ (by omega) h2 h3.symm
/-- What is fixed lies in the prime field. -/
theorem small_frb {a : Nat} (ha : a < D.p) : frb hD (toE hD.pre.pk a) = toE hD.pre.pk a := by
  have hk := hD.pre.pk
  show (FD.dom hD.nzd).pow (toE hD.pre.pk a) D.p = _
  rw [← toE_pow hD (small_lt hk ha), ppow_small hk a ha, fermat_nat hD.pre.prime hD.p6 a ha]
theorem frb_small {x : El (D.p ^ D.k)} (h : frb hD x = x) : x.1 < D.p := by
  have hk := hD.pre.pk
  have hp2 := hk.p2
  apply Classical.byContradiction
  intro hge
  have one : ∀ r : El (D.p ^ D.k), frb hD r = r → r ≠ (FD.dom hD.nzd).zero → (FD.dom hD.nzd).pow r (D.p - 1) = (FD.dom hD.nzd).one := fun r hr h0 => by
    have e : (FD.dom hD.nzd).pow r (D.p - 1 + 1) = r := by rw [Nat.sub_add_cancel (by omega)]; exact hr
    rw [Dom.pow_succ, Dom.mul_comm] at e
    exact Dom.mul_left_cancel _ h0 (by rw [e, Dom.mul_one])
  have hz : ∀ c, 1 ≤ c → c < D.p → toE hk c ≠ (FD.dom hD.nzd).zero := fun c h1 h2 e => by
    rw [← toE_zero hD] at e
    have := toE_inj hk (small_lt hk h2) (Nat.pow_pos hk.p0) e
    omega
  let R : List (El (D.p ^ D.k)) := x :: (List.range (D.p - 1)).map (fun i => toE hk (i + 1))
  have hR : R.Nodup := by
    refine List.nodup_cons.2 ⟨fun hm => ?_, nodup_map_on List.nodup_range (fun i hi j hj e => ?_)⟩
    · obtain ⟨i, hi, e⟩ := List.mem_map.1 hm
      have hi' := List.mem_range.1 hi
      have := congrArg Subtype.val e
      rw [toE_val _ (small_lt hk (by omega))] at this
      omega
    · have hi' := List.mem_range.1 hi
      have hj' := List.mem_range.1 hj
      have := toE_inj hk (small_lt hk (by omega)) (small_lt hk (by omega)) e
      omega
  have hl := Dom.roots_pow (FD.dom hD.nzd) (n := D.p - 1) (by omega) R hR (fun r hr => by
    rcases List.mem_cons.1 hr with rfl | hr
    · refine one _ h (fun e => ?_)
      rw [e] at hge
      have h0 : ((FD.dom hD.nzd).zero : El (D.p ^ D.k)).1 = 0 := (congrArg Subtype.val (toE_zero hD)).symm.trans (toE_val _ (Nat.pow_pos hk.p0))
      omega
    · obtain ⟨i, hi, rfl⟩ := List.mem_map.1 hr
      have hi' := List.mem_range.1 hi
      exact one _ (small_frb hD (by omega)) (hz _ (by omega) (by omega)))
  have : R.length = D.p := by
    show (x :: _).length = _
    rw [List.length_cons, List.length_map, List.length_range]
    omega
  omega
theorem of_frb {a : Nat} (ha : a < D.p ^ D.k) (h : frb hD (toE hD.pre.pk a) = toE hD.pre.pk a) : a < D.p := by
  have := frb_small hD h
  rw [toE_val _ ha] at this
  exact this
include hD in
/-- Numbers of the prime field. -/
theorem add_small {a b : Nat} (ha : a < D.p) (hb : b < D.p) : padd D.p D.k a b = (a + b) % D.p := by
  have hk := hD.pre.pk
  apply toE_inj hk (padd_lt hk _ _) (small_lt hk (Nat.mod_lt _ hk.p0))
  have ea : ∀ {c : Nat}, c < D.p → toE hk c = (FD.dom hD.nzd).nm c := fun {c} hc => by rw [← nm_toE hD c, Nat.mod_eq_of_lt hc]
  rw [toE_add hD (small_lt hk ha) (small_lt hk hb), ea ha, ea hb, nm_toE hD, Dom.nm_add]
include hD in
theorem mul_small {a b : Nat} (ha : a < D.p) (hb : b < D.p) : pmul D.p D.k D.m a D.k b = a * b % D.p := by
  have hk := hD.pre.pk
  rw [pmul_small hk a b (small_lt hk ha) hb, pscl_small hk a b ha]
/-- The trace. -/
theorem trace_sm {a : Nat} (ha : a < D.p ^ D.k) : ∀ i, toE hD.pre.pk (cjf hD.pre.pk a (fun t c => padd D.p D.k t c) 0 i) = (FD.dom hD.nzd).sm (cj hD a) i
  | 0 => toE_zero hD
  | i + 1 => by
    have hk := hD.pre.pk
    have h1 : cjf hD.pre.pk a (fun t c => padd D.p D.k t c) 0 i < D.p ^ D.k := by
      cases i with
      | zero => exact Nat.pow_pos hk.p0
      | succ i => exact padd_lt hk _ _
    show toE hD.pre.pk (padd D.p D.k _ _) = (FD.dom hD.nzd).add _ _
    rw [toE_add hD h1 (cjg_lt _ a ha i), trace_sm ha i]
    rfl
theorem norm_pr {a : Nat} (ha : a < D.p ^ D.k) : ∀ i, toE hD.pre.pk (cjf hD.pre.pk a (fun t c => pmul D.p D.k D.m t D.k c) 1 i) = pr (FD.dom hD.nzd) (cj hD a) i
  | 0 => toE_one hD
  | i + 1 => by
    have hk := hD.pre.pk
    have h1 : cjf hD.pre.pk a (fun t c => pmul D.p D.k D.m t D.k c) 1 i < D.p ^ D.k := by
      cases i with
      | zero => exact hk.one_lt
      | succ i => exact pmul_lt hk _ _ _
    show toE hD.pre.pk (pmul D.p D.k D.m _ D.k _) = (FD.dom hD.nzd).mul _ _
    rw [toE_mul hD h1 (cjg_lt _ a ha i), norm_pr ha i]
    rfl
theorem cjf_add_lt (a i : Nat) : cjf hD.pre.pk a (fun t c => padd D.p D.k t c) 0 i < D.p ^ D.k := by
  cases i with
  | zero => exact Nat.pow_pos hD.pre.pk.p0
  | succ i => exact padd_lt hD.pre.pk _ _
theorem cjf_mul_lt (a i : Nat) : cjf hD.pre.pk a (fun t c => pmul D.p D.k D.m t D.k c) 1 i < D.p ^ D.k := by
  cases i with
  | zero => exact hD.pre.pk.one_lt
  | succ i => exact pmul_lt hD.pre.pk _ _ _
theorem trace_small {a : Nat} (ha : a < D.p ^ D.k) : cjf hD.pre.pk a (fun t c => padd D.p D.k t c) 0 D.k < D.p := by
  refine of_frb hD (cjf_add_lt hD a _) ?_
  rw [trace_sm hD ha, (frb_hm hD).sm]
  have e : (fun i => frb hD (cj hD a i)) = fun i => cj hD a (i + 1) := funext fun i => cj_next hD ha i
  rw [e]
  exact sm_turned _ (cj_k hD ha)
theorem norm_small {a : Nat} (ha : a < D.p ^ D.k) : cjf hD.pre.pk a (fun t c => pmul D.p D.k D.m t D.k c) 1 D.k < D.p := by
  refine of_frb hD (cjf_mul_lt hD a _) ?_
  rw [norm_pr hD ha, (frb_hm hD).pr]
  have e : (fun i => frb hD (cj hD a i)) = fun i => cj hD a (i + 1) := funext fun i => cj_next hD ha i
  rw [e]
  refine pr_turned _ (cj_k hD ha) (fun h i => ?_)
  induction i with
  | zero => exact h
  | succ i ih => rw [← cj_next hD ha, ih]; exact (frb_hm hD).zero
theorem trace_add {a b : Nat} (ha : a < D.p ^ D.k) (hb : b < D.p ^ D.k) : cjf hD.pre.pk (padd D.p D.k a b) (fun t c => padd D.p D.k t c) 0 D.k = (cjf hD.pre.pk a (fun t c => padd D.p D.k t c) 0 D.k + cjf hD.pre.pk b (fun t c => padd D.p D.k t c) 0 D.k) % D.p := by
  rw [← add_small hD (trace_small hD ha) (trace_small hD hb)]
  apply toE_inj hD.pre.pk (cjf_add_lt hD _ _) (padd_lt hD.pre.pk _ _)
  rw [toE_add hD (cjf_add_lt hD _ _) (cjf_add_lt hD _ _), trace_sm hD (padd_lt hD.pre.pk _ _), trace_sm hD ha, trace_sm hD hb, ← Dom.sm_add]
  refine Dom.sm_congr _ _ fun i _ => ?_
  have e : ∀ i, cj hD (padd D.p D.k a b) i = (FD.dom hD.nzd).add (cj hD a i) (cj hD b i) := fun i => by
    induction i with
    | zero => exact toE_add hD ha hb
    | succ i ih => rw [← cj_next hD (padd_lt hD.pre.pk _ _), ih, (frb_hm hD).add, cj_next hD ha, cj_next hD hb]
  exact e i
theorem norm_mul {a b : Nat} (ha : a < D.p ^ D.k) (hb : b < D.p ^ D.k) : cjf hD.pre.pk (pmul D.p D.k D.m a D.k b) (fun t c => pmul D.p D.k D.m t D.k c) 1 D.k = cjf hD.pre.pk a (fun t c => pmul D.p D.k D.m t D.k c) 1 D.k * cjf hD.pre.pk b (fun t c => pmul D.p D.k D.m t D.k c) 1 D.k % D.p := by
  rw [← mul_small hD (norm_small hD ha) (norm_small hD hb)]
  apply toE_inj hD.pre.pk (cjf_mul_lt hD _ _) (pmul_lt hD.pre.pk _ _ _)
  rw [toE_mul hD (cjf_mul_lt hD _ _) (cjf_mul_lt hD _ _), norm_pr hD (pmul_lt hD.pre.pk _ _ _), norm_pr hD ha, norm_pr hD hb, ← pr_mul]
  refine pr_congr (fun i => ?_) _
  induction i with
  | zero => exact toE_mul hD ha hb
  | succ i ih => rw [← cj_next hD (pmul_lt hD.pre.pk _ _ _), ih, (frb_hm hD).mul, cj_next hD ha, cj_next hD hb]
/-- The minimal polynomial is the product over the conjugates. -/
theorem serL_lin {c : Nat} (hc : c < D.p ^ D.k) : serL hD [pscl D.p D.k (D.p - 1) c, 1] = lin (FD.dom hD.nzd) (toE hD.pre.pk c) := by
  funext i
  show toE hD.pre.pk (([pscl D.p D.k (D.p - 1) c, 1] : List Nat)[i]?.getD 0) = (FD.dom hD.nzd).add (if i = 1 then (FD.dom hD.nzd).one else (FD.dom hD.nzd).zero) (if i = 0 then (FD.dom hD.nzd).neg (toE hD.pre.pk c) else (FD.dom hD.nzd).zero)
  match i with
  | 0 =>
    rw [if_neg (by omega), if_pos rfl, Dom.zero_add]
    exact toE_neg hD hc
  | 1 =>
    rw [if_pos rfl, if_neg (by omega), Dom.add_zero]
    exact toE_one hD
  | i + 2 =>
    rw [if_neg (by omega), if_neg (by omega), Dom.add_zero]
    exact toE_zero hD
theorem minF_ser {a : Nat} (ha : a < D.p ^ D.k) : ∀ i, serL hD (minF D hD.pre.pk a i) = lins (FD.dom hD.nzd) (cj hD a) i
  | 0 => serL_one hD
  | i + 1 => by
    show serL hD (mulL D (minF D hD.pre.pk a i) [pscl D.p D.k (D.p - 1) (cjg hD.pre.pk a i), 1]) = (FD.dom hD.nzd).ser.mul (lins (FD.dom hD.nzd) (cj hD a) i) (lin (FD.dom hD.nzd) (cj hD a i))
    rw [serL_mulL hD (minF_lt _ _ _) (two_lt hD.pre.pk (pscl_lt hD.pre.pk _ _)), serL_lin hD (cjg_lt _ a ha i), minF_ser ha i]
    rfl
theorem minF_top {a : Nat} (ha : a < D.p ^ D.k) (t : Nat) : (minF D hD.pre.pk a t)[t]?.getD 0 = 1 := by
  have hk := hD.pre.pk
  apply toE_inj hk (getD_lt (Nat.pow_pos hk.p0) (minF_lt hk a t) t) hk.one_lt
  have := congrFun (minF_ser hD ha t) t
  rw [lins_top] at this
  exact this.trans (toE_one hD).symm
theorem minF_small {a t : Nat} (ha : a < D.p ^ D.k) (ht : MinT hD.pre.pk a t) : ∀ x ∈ minF D hD.pre.pk a t, x < D.p := fun x hx => by
  obtain ⟨j, hj, e⟩ := List.mem_iff_getElem.1 hx
  have h1 := orbit_fixed (frb_hm hD) (c := cj hD a) (t := t) (fun i => cj_next hD ha i) (congrArg (toE hD.pre.pk) (cjg_t hD ha ht))
  rw [← minF_ser hD ha] at h1
  have h2 := congrFun h1 j
  have h3 : serL hD (minF D hD.pre.pk a t) j = toE hD.pre.pk x := by
    show toE hD.pre.pk ((minF D hD.pre.pk a t)[j]?.getD 0) = _
    rw [List.getElem?_eq_getElem hj, e]
    rfl
  have h4 : frb hD (serL hD (minF D hD.pre.pk a t) j) = serL hD (minF D hD.pre.pk a t) j := h2
  rw [h3] at h4
  exact of_frb hD (minF_lt hD.pre.pk a t x hx) h4
/-- Every conjugate is a root. -/
theorem horn_eqv {l : List Nat} (hl : ∀ a ∈ l, a < D.p ^ D.k) {z : Nat} (hz : z < D.p ^ D.k) : ∀ i, i ≤ l.length → Eqv (FD.dom hD.nzd) (lin (FD.dom hD.nzd) (toE hD.pre.pk z)) (serL hD (l.drop (l.length - i))) ((FD.dom hD.nzd).mon1 (toE hD.pre.pk (hornF D l z i)) 0)
  | 0, _ => by
    have e1 : serL hD (l.drop (l.length - 0)) = (FD.dom hD.nzd).ser.zero := serL_nil hD (by simp)
    have e2 : (FD.dom hD.nzd).mon1 (toE hD.pre.pk (hornF D l z 0)) 0 = (FD.dom hD.nzd).ser.zero := by
      show (FD.dom hD.nzd).mon1 (toE hD.pre.pk 0) 0 = _
      rw [toE_zero hD]
      exact emb_ser.zero
    rw [e1, e2]
    exact Eqv.refl _
  | i + 1, hi => by
    have hk := hD.pre.pk
    have h1 := horn_eqv hl hz i (by omega)
    have hc : l[l.length - 1 - i]?.getD 0 < D.p ^ D.k := getD_lt (Nat.pow_pos hk.p0) hl _
    have hdr : ∀ j, serL hD (l.drop (l.length - (i + 1))) (j + 1) = serL hD (l.drop (l.length - i)) j := fun j => by
      show toE hk ((l.drop (l.length - (i + 1)))[j + 1]?.getD 0) = toE hk ((l.drop (l.length - i))[j]?.getD 0)
      rw [List.getElem?_drop, List.getElem?_drop]
      congr 3
      omega
    have h0 : serL hD (l.drop (l.length - (i + 1))) 0 = toE hk (l[l.length - 1 - i]?.getD 0) := by
      show toE hk ((l.drop (l.length - (i + 1)))[0]?.getD 0) = _
      rw [List.getElem?_drop]
      congr 3
      omega
    have er : (FD.dom hD.nzd).mon1 (toE hk (hornF D l z (i + 1))) 0 = (FD.dom hD.nzd).ser.add ((FD.dom hD.nzd).mon1 (toE hk (l[l.length - 1 - i]?.getD 0)) 0) ((FD.dom hD.nzd).ser.mul ((FD.dom hD.nzd).mon1 (toE hk z) 0) ((FD.dom hD.nzd).mon1 (toE hk (hornF D l z i)) 0)) := by
      have e1 : toE hk (hornF D l z (i + 1)) = (FD.dom hD.nzd).add (toE hk (l[l.length - 1 - i]?.getD 0)) ((FD.dom hD.nzd).mul (toE hk z) (toE hk (hornF D l z i))) := by
        show toE hk (padd D.p D.k (pmul D.p D.k D.m (hornF D l z i) D.k z) (l[l.length - 1 - i]?.getD 0)) = _
        rw [toE_add hD (pmul_lt hk _ _ _) hc, toE_mul hD (hornF_lt hk l z i) hz, Dom.add_comm, Dom.mul_comm]
      rw [e1]
      exact (emb_ser.add _ _).trans (congrArg _ (emb_ser.mul _ _))
    have el : serL hD (l.drop (l.length - (i + 1))) = (FD.dom hD.nzd).ser.add ((FD.dom hD.nzd).mon1 (toE hk (l[l.length - 1 - i]?.getD 0)) 0) ((FD.dom hD.nzd).ser.mul (xx (FD.dom hD.nzd)) (serL hD (l.drop (l.length - i)))) := by
      have := split_x (F := FD.dom hD.nzd) (serL hD (l.drop (l.length - (i + 1))))
      rw [h0, funext hdr] at this
      exact this
    rw [el, er]
    exact Eqv.add (Eqv.refl _) (Eqv.mul (serL_pl hD _) (const_pl _) (lin_x _) h1)
theorem horn_root {l : List Nat} (hl : ∀ a ∈ l, a < D.p ^ D.k) {z : Nat} (hz : z < D.p ^ D.k) (h : (FD.dom hD.nzd).Dv (lin (FD.dom hD.nzd) (toE hD.pre.pk z)) (serL hD l)) : hornF D l z l.length = 0 := by
  have h1 := horn_eqv hD hl hz l.length (Nat.le_refl _)
  rw [Nat.sub_self, List.drop_zero] at h1
  have h2 := const_zero (Eqv.dv h1 (Dom.Dv.self _ _) h)
  rw [← toE_zero hD] at h2
  exact toE_inj hD.pre.pk (hornF_lt hD.pre.pk _ _ _) (Nat.pow_pos hD.pre.pk.p0) h2
theorem min_root {a t : Nat} (ha : a < D.p ^ D.k) (ht : MinT hD.pre.pk a t) (i : Nat) : hornF D (minF D hD.pre.pk a t) (cjg hD.pre.pk a i) (minF D hD.pre.pk a t).length = 0 := by
  refine horn_root hD (minF_lt hD.pre.pk a t) (cjg_lt _ a ha i) ?_
  have h1 := ht.1
  have e := cjg_per hD ha ht (i % t) (i / t)
  rw [Nat.div_add_mod] at e
  rw [e, minF_ser hD ha]
  exact lins_dv (cj hD a) t (Nat.mod_lt _ (by omega))
/-- Powers of an element that is not 0. -/
theorem ppow_red {a : Nat} (ha : a < D.p ^ D.k) (h0 : a ≠ 0) (n : Nat) : ppow hD.pre.pk a (n % (D.p ^ D.k - 1)) = ppow hD.pre.pk a n := by
  have hk := hD.pre.pk
  apply toE_inj hk (ppow_lt _ _ _) (ppow_lt _ _ _)
  rw [toE_pow hD ha, toE_pow hD ha]
  have h1 : (FD.dom hD.nzd).pow (toE hk a) (D.p ^ D.k - 1) = (FD.dom hD.nzd).one := by
    rw [← toE_pow hD ha, hD.fermat ha h0, toE_one hD]
  conv => rhs; rw [← Nat.div_add_mod n (D.p ^ D.k - 1), Dom.pow_add, Dom.pow_mul, h1, Dom.one_pow, Dom.one_mul]
end
/-- The minimal polynomial is irreducible over the prime field. -/
theorem min_irr {D D' : FD} (hD : D.Ok) (hD' : D'.Ok) (hp : D'.p = D.p) (hk1 : D'.k = 1) {a t : Nat} (ha : a < D.p ^ D.k) (ht : MinT hD.pre.pk a t) : IrrP hD' (minF D hD.pre.pk a t) := by
  have hk := hD.pre.pk
  have hq' : D'.p ^ D'.k = D.p := by rw [hp, hk1, Nat.pow_one]
  have hsm := minF_small hD ha ht
  have hl' : ∀ x ∈ minF D hD.pre.pk a t, x < D'.p ^ D'.k := fun x hx => by rw [hq']; exact hsm x hx
  have hlen := minF_len D hD.pre.pk a t
  have htop := minF_top hD ha t
  have ht1 := ht.1
  have htz : Tz (minF D hD.pre.pk a t) := .inr (by rw [hlen, Nat.add_sub_cancel, htop]; omega)
  have hv : ∀ x : El (D'.p ^ D'.k), x.1 < D.p := fun x => Nat.lt_of_lt_of_eq x.2 hq'
  let φ : El (D'.p ^ D'.k) → El (D.p ^ D.k) := fun x => toE hk x.1
  have hadd : ∀ a b, a < D.p → b < D.p → padd D'.p D'.k a b = padd D.p D.k a b := fun a b h1 h2 => by
    rw [add_small hD' (by rw [hp]; exact h1) (by rw [hp]; exact h2), hp, ← add_small hD h1 h2]
  have hmul : ∀ a b, a < D.p → b < D.p → pmul D'.p D'.k D'.m a D'.k b = pmul D.p D.k D.m a D.k b := fun a b h1 h2 => by
    rw [mul_small hD' (by rw [hp]; exact h1) (by rw [hp]; exact h2), hp, ← mul_small hD h1 h2]
  have hφ : Hm (FD.dom hD'.nzd) (FD.dom hD.nzd) φ := {
    add := fun x y => by
      have h1 : ((FD.dom hD'.nzd).add x y).1 = padd D'.p D'.k x.1 y.1 := rfl
      show toE hk ((FD.dom hD'.nzd).add x y).1 = _
      rw [h1, hadd _ _ (hv x) (hv y), toE_add hD (small_lt hk (hv x)) (small_lt hk (hv y))]
    mul := fun x y => by
      have h1 : ((FD.dom hD'.nzd).mul x y).1 = pmul D'.p D'.k D'.m x.1 D'.k y.1 := rfl
      show toE hk ((FD.dom hD'.nzd).mul x y).1 = _
      rw [h1, hmul _ _ (hv x) (hv y), toE_mul hD (small_lt hk (hv x)) (small_lt hk (hv y))]
    zero := by
      show toE hk ((FD.dom hD'.nzd).zero).1 = _
      rw [← toE_zero hD', toE_val _ (Nat.pow_pos hD'.pre.pk.p0), toE_zero hD]
    one := by
      show toE hk ((FD.dom hD'.nzd).one).1 = _
      rw [← toE_one hD', toE_val _ hD'.pre.pk.one_lt, toE_one hD] }
  have hinj : ∀ x, φ x = (FD.dom hD.nzd).zero → x = (FD.dom hD'.nzd).zero := fun x e => by
    rw [← toE_zero hD] at e
    have := toE_inj hk (small_lt hk (hv x)) (Nat.pow_pos hk.p0) e
    rw [← toE_self hD' x, this, toE_zero hD']
  have hon : hφ.on (serL hD' (minF D hD.pre.pk a t)) = lins (FD.dom hD.nzd) (cj hD a) t := by
    rw [← minF_ser hD ha]
    funext j
    show toE hk (toE hD'.pre.pk ((minF D hD.pre.pk a t)[j]?.getD 0)).1 = toE hk ((minF D hD.pre.pk a t)[j]?.getD 0)
    rw [toE_val _ (getD_lt (Nat.pow_pos hD'.pre.pk.p0) hl' j)]
  have hdg := serL_dg hD' hl' (by rw [hlen]; omega) htz
  rw [hlen, Nat.add_sub_cancel] at hdg
  have hird := orbit_ird hφ hinj (dom_inv hD) (frb_hm hD) (fun x => small_frb hD (hv x)) (c := cj hD a) (fun i => cj_next hD ha i) ht1 (fun i k h1 h2 e => cjg_ne hD ha ht h1 h2 (toE_inj hk (cjg_lt _ a ha i) (cjg_lt _ a ha k) e)) hdg hon
  have h3 := (ird_ref (dom_inv hD') (dom_els hD') (by rw [els_len hD']; exact q_two hD') hdg ht1).1 hird
  rw [els_len hD'] at h3
  exact ⟨by rw [hlen]; omega, fun d h1 h2 => h3 d h1 (by rw [hlen] at h2; omega)⟩
end FFld
end Go.Proofs.Ytfhhnfpapgfnmaa

set_option linter.unusedVariables false
set_option linter.unusedSimpArgs false
namespace Go.Proofs.Ytfhhnfpapgfnmaa
open Go Go.RowKit Go.Deep
open FFld (ints)
/-- The prime field. -/
theorem prime_sub {D D' : FFld.FD} (hD : D.Ok) (hD' : D'.Ok) (h : ((D.p : Nat) : Int) = D'.q) : D'.p = D.p ∧ D'.k = 1 := by
  obtain ⟨g, hg⟩ := FFld.FD.prime_exists D.p hD.pre.prime hD.p6
  have e : D' = ⟨D.p, 1, D.p, g⟩ := FFld.FD.uniq hD' hg (by
    show D'.q = D.p ^ 1
    rw [Nat.pow_one]
    omega)
  rw [e]
  exact ⟨rfl, rfl⟩
/-- Pow by the characteristic. -/
theorem fpow_p {D : FFld.FD} {b : Nat} (hD : D.Ok) (z v : Nat) (w : World) (hf : FldB D w b) (hz : z < D.p ^ D.k) (hv : FFld.ppow hD.pre.pk z D.p = v) :
    Calls Try.prog 28 #[.pointer (some ⟨b, 0, none⟩), .int .i64 z, .int .i64 (D.p : Nat)] w (RB w (.tuple #[.int .i64 (v : Nat), .int .i64 0])) := by
  have hk := hD.pre.pk
  have hp2 := hk.p2
  have hq6 : D.p ^ D.k ≤ 65536 := hD.pre.small
  have hq1 := hk.one_lt
  have hm : ((z : Nat) : Int) % D.q = z := by
    show (z : Int) % ((D.p ^ D.k : Nat) : Int) = z
    exact Int.emod_eq_of_lt (by omega) (by omega)
  by_cases h0 : z = 0
  · subst h0
    have e0 : FFld.ppow hD.pre.pk 0 D.p = 0 := by
      obtain ⟨n, hn⟩ : ∃ n, D.p = n + 1 := ⟨D.p - 1, by omega⟩
      have := FFld.ppow_succ hk 0 n hz
      rw [← hn] at this
      rw [this, FFld.pmul_zero_right hk]
    rw [e0] at hv
    subst hv
    refine (fpow_none 0 (D.p : Nat) w hf (by omega) (by omega) (by simp) (by omega)).mono ?_
    rintro e w' ⟨rfl, rfl⟩
    exact ⟨Below.refl _ _, by rw [if_neg (by omega)]; rfl⟩
  · have hpn : D.p ≤ 65536 := hD.p6
    refine (fpow_any hD z (D.p : Nat) w hf (by omega) (by omega) z hm hz h0 (by omega) (D.p % (D.p ^ D.k - 1)) ?_).mono ?_
    · show (D.p : Int) % (((D.p ^ D.k : Nat) : Int) - 1) = _
      have e1 : ((D.p ^ D.k : Nat) : Int) - 1 = ((D.p ^ D.k - 1 : Nat) : Int) := by omega
      rw [e1]
      rfl
    · intro e w' h
      rw [FFld.ppow_red hD hz h0, hv] at h
      exact h
set_option maxRecDepth 20000 in
set_option maxHeartbeats 8000000 in
theorem fieldNorms_any (order x y : Int) (w : World) (o0 : -9223372036854775808 ≤ order) (o1 : order ≤ 9223372036854775807) (x0 : -9223372036854775808 ≤ x) (x1 : x ≤ 9223372036854775807) (y0 : -9223372036854775808 ≤ y) (y1 : y ≤ 9223372036854775807) :
    Calls Try.prog 16 #[.int .i64 order, .int .i64 x, .int .i64 y] w (RB w (.bool true)) := by
  go_enter Try.func16, Try.ntmps16
  go_wp2_with fail
  refine (some_any order 2000 w o0 o1 (by omega) (by omega)).mono ?_
  rintro e w1 ⟨hb1, D, b, hD, hle, hbl, hf, rfl⟩
  have HB1 := Kept.mk hb1
  have HF1 := Kept.mk hf
  have HD := Kept.mk hD
  have hq0 : D.q = D.p ^ D.k := rfl
  have hq6 := hD.pre.small
  have hq1 := hD.pre.pk.one_lt
  rw [← hq0] at hq1
  have hbx : Below w1.heap.size w1 (w1.alloc (rbox D.q D.p D.k D.m)) := (Below.refl _ _).alloc (Nat.le_refl _) _
  obtain ⟨i0, i1, i2, i3⟩ := four_cells (heap_alloc_new w1 (rbox D.q D.p D.k D.m))
  have HX := Kept.mk hbx
  have hns : w1.heap.size < (w1.alloc (rbox D.q D.p D.k D.m)).heap.size := by simp
  clear hb1 hf hD hbx hq0
  obtain ⟨r, hr, hrq⟩ := red_nat HD.out x
  obtain ⟨s, hs, hsq⟩ := red_nat HD.out y
  have hq6' : D.q ≤ 65536 := hq6
  have hI1 := Kept.mk (fun W (hW : Below (w1.alloc (rbox D.q D.p D.k D.m)).heap.size (w1.alloc (rbox D.q D.p D.k D.m)) W) => rin_any D.q D.p D.k D.m x W (by omega) hq6' x0 x1)
  have hI2 := Kept.mk (fun W (hW : Below (w1.alloc (rbox D.q D.p D.k D.m)).heap.size (w1.alloc (rbox D.q D.p D.k D.m)) W) => rin_any D.q D.p D.k D.m y W (by omega) hq6' y0 y1)
  rw [hr] at hI1
  rw [hs] at hI2
  have hr6 := el_le HD.out hrq
  have hs6 := el_le HD.out hsq
  clear hr hs x0 x1 y0 y1
  have hPR := Kept.mk (fun W (hf : FldB D W b) => (fprime_any W hf).mono (R' := RB W (.tuple #[.int .i64 D.p, .int .i64 D.k])) (fun _ _ h => h.rb))
  obtain ⟨g8, hg8⟩ : ∃ g, w1.heap.size = g := ⟨_, rfl⟩
  go_wp2_with fail
  obtain ⟨W0, hW0⟩ : ∃ W, w1.alloc (rbox D.q D.p D.k D.m) = W := ⟨_, rfl⟩
  rw [hW0] at i0 i1 i2 i3 HX hns hI1 hI2
  try rw [hW0]
  rw [hg8] at i0 i1 i2 i3
  try rw [hg8]
  clear hW0
  refine (hPR.out _ (HF1.out.below HX.out)).mono ?_
  rintro e w2 ⟨hb2, rfl⟩
  replace i0 := belowCell hb2 i0
  replace i1 := belowCell hb2 i1
  replace i2 := belowCell hb2 i2
  replace i3 := belowCell hb2 i3
  have hI3 := Kept.mk (fun W (hW : Below w2.heap.size w2 W) => hI1.out W (bstep hb2 hW))
  have hI4 := Kept.mk (fun W (hW : Below w2.heap.size w2 W) => hI2.out W (bstep hb2 hW))
  have HX2 := Kept.mk (bstep HX.out hb2)
  have hs2 := hb2.size
  clear hb2 hI1 hI2
  go_wp2
  go_region_held3 (fun w' => w'.cell? ⟨g8, 0, none⟩ = some (.int .i64 D.q) ∧ w'.cell? ⟨g8, 1, none⟩ = some (.int .i64 D.p) ∧ w'.cell? ⟨g8, 2, none⟩ = some (.int .i64 D.k) ∧ w'.cell? ⟨g8, 3, none⟩ = some (.int .i64 D.m))
    (first | exact ⟨k0, k1, k2, k3⟩ | exact ⟨j0, j1, j2, j3⟩ | exact ⟨i0, i1, i2, i3⟩ | go_keep)
    ((first
      | (go_at_call 51; (with_reducible refine (hI3.out _ ?h1).mono ?_); (case h1 => exact (by first | exact Below.refl _ _ | exact (Below.refl _ _).drew)); rintro e v1 ⟨hb1, rfl⟩; have hy1 := Kept.mk (bstep (show Below w2.heap.size w2 _ from (by first | exact Below.refl _ _ | exact (Below.refl _ _).drew)) hb1); have j0 := belowCell hy1.out i0; have j1 := belowCell hy1.out i1; have j2 := belowCell hy1.out i2; have j3 := belowCell hy1.out i3; clear hb1)
      | (go_at_call 51; (with_reducible refine (hI4.out _ ?h1).mono ?_); (case h1 => exact hy1.out); rintro e v2 ⟨hb2, rfl⟩; have hy2 := Kept.mk (bstep (show Below w2.heap.size w2 _ from hy1.out) hb2); have k0 := belowCell hy2.out i0; have k1 := belowCell hy2.out i1; have k2 := belowCell hy2.out i2; have k3 := belowCell hy2.out i3; clear hb2)))
  have HF2 := Kept.mk ((HF1.out.below HX2.out).below hy2.out)
  have HB2 := Kept.mk (bstep (bstep HB1.out HX2.out) hy2.out)
  clear HF1 HX HX2 HB1 hI3 hI4 hy1 hy2 i0 i1 i2 i3 j0 j1 j2 j3 k0 k1 k2 k3 hPR
  have hpk := HD.out.pre.pk
  have hp2 := hpk.p2
  have hp6 := HD.out.p6
  have hk1 := HD.out.pre.k1
  have hk40 : D.k ≤ 40 := FFld.len_of_pow (Nat.pow_le_pow_left HD.out.pre.prime.1 _) (show D.p ^ D.k ≤ 1099511627776 by have := HD.out.pre.small; unfold FFld.FD.q at this; omega)
  have md : ∀ {z : Nat}, z < D.p ^ D.k → ((z : Nat) : Int) % D.q = z := fun {z} hz => by
    show (z : Int) % ((D.p ^ D.k : Nat) : Int) = z
    exact Int.emod_eq_of_lt (by omega) (by omega)
  have bd : ∀ {z : Nat}, z < D.p ^ D.k → (-9223372036854775808 : Int) ≤ z ∧ (z : Int) ≤ 9223372036854775807 := fun {z} hz => by
    have h1 := el_le HD.out hz
    omega
  obtain ⟨a1, ha1⟩ : ∃ v, FFld.padd D.p D.k r s = v := ⟨_, rfl⟩
  obtain ⟨a3, ha3⟩ : ∃ v, FFld.pmul D.p D.k D.m r D.k s = v := ⟨_, rfl⟩
  have a1q : a1 < D.p ^ D.k := by rw [← ha1]; exact FFld.padd_lt hpk _ _
  have a3q : a3 < D.p ^ D.k := by rw [← ha3]; exact FFld.pmul_lt hpk _ _ _
  have a16 := el_le HD.out a1q
  have a36 := el_le HD.out a3q
  obtain ⟨t, ht⟩ := MinT.exists hpk r
  have HA := Kept.mk (fun W (hW : Below v2.heap.size v2 W) => fadd_any (r : Int) (s : Int) W (HF2.out.below hW) (bd hrq).1 (bd hrq).2 (bd hsq).1 (bd hsq).2 r s (md hrq) (md hsq) hrq hsq)
  have HM := Kept.mk (fun W (hW : Below v2.heap.size v2 W) => fmul_any (r : Int) (s : Int) W (HF2.out.below hW) (bd hrq).1 (bd hrq).2 (bd hsq).1 (bd hsq).2 r s (md hrq) (md hsq) hrq hsq)
  rw [ha1] at HA
  rw [ha3] at HM
  have HT1 := Kept.mk (fun W (hW : Below v2.heap.size v2 W) => trace_any HD.out (r : Int) W (HF2.out.below hW) (bd hrq).1 (bd hrq).2 r (md hrq) hrq)
  have HT2 := Kept.mk (fun W (hW : Below v2.heap.size v2 W) => trace_any HD.out (s : Int) W (HF2.out.below hW) (bd hsq).1 (bd hsq).2 s (md hsq) hsq)
  have HT3 := Kept.mk (fun W (hW : Below v2.heap.size v2 W) => trace_any HD.out (a1 : Int) W (HF2.out.below hW) (bd a1q).1 (bd a1q).2 a1 (md a1q) a1q)
  have HN1 := Kept.mk (fun W (hW : Below v2.heap.size v2 W) => norm_any HD.out (r : Int) W (HF2.out.below hW) (bd hrq).1 (bd hrq).2 r (md hrq) hrq)
  have HN2 := Kept.mk (fun W (hW : Below v2.heap.size v2 W) => norm_any HD.out (s : Int) W (HF2.out.below hW) (bd hsq).1 (bd hsq).2 s (md hsq) hsq)
  have HN3 := Kept.mk (fun W (hW : Below v2.heap.size v2 W) => norm_any HD.out (a3 : Int) W (HF2.out.below hW) (bd a3q).1 (bd a3q).2 a3 (md a3q) a3q)
  have HMN := Kept.mk (fun W (hW : Below v2.heap.size v2 W) => fminimal_any HD.out (r : Int) r t W (HF2.out.below hW) (bd hrq).1 (bd hrq).2 (md hrq) hrq ht)
  have HFN := Kept.mk (fun W => fnew_any ((D.p : Nat) : Int) W (by omega) (by omega))
  have e3 := FFld.trace_add HD.out hrq hsq
  have e4 := FFld.norm_mul HD.out hrq hsq
  rw [ha1] at e3
  rw [ha3] at e4
  have l1 := FFld.trace_small HD.out hrq
  have l2 := FFld.trace_small HD.out hsq
  have l3 := FFld.norm_small HD.out hrq
  have l4 := FFld.norm_small HD.out hsq
  have MD : Kept (∀ z, z < D.p ^ D.k → ((z : Nat) : Int) % D.q = z) := ⟨fun z hz => md hz⟩
  have BD : Kept (∀ z, z < D.p ^ D.k → (-9223372036854775808 : Int) ≤ z ∧ (z : Int) ≤ 9223372036854775807) := ⟨fun z hz => bd hz⟩
  clear md bd
  obtain ⟨t1, ht1⟩ : ∃ v, cjf HD.out.pre.pk r (fun t c => FFld.padd D.p D.k t c) 0 D.k = v := ⟨_, rfl⟩
  obtain ⟨t2, ht2⟩ : ∃ v, cjf HD.out.pre.pk s (fun t c => FFld.padd D.p D.k t c) 0 D.k = v := ⟨_, rfl⟩
  obtain ⟨t3, ht3⟩ : ∃ v, cjf HD.out.pre.pk a1 (fun t c => FFld.padd D.p D.k t c) 0 D.k = v := ⟨_, rfl⟩
  obtain ⟨n1, hn1⟩ : ∃ v, cjf HD.out.pre.pk r (fun t c => FFld.pmul D.p D.k D.m t D.k c) 1 D.k = v := ⟨_, rfl⟩
  obtain ⟨n2, hn2⟩ : ∃ v, cjf HD.out.pre.pk s (fun t c => FFld.pmul D.p D.k D.m t D.k c) 1 D.k = v := ⟨_, rfl⟩
  obtain ⟨n3, hn3⟩ : ∃ v, cjf HD.out.pre.pk a3 (fun t c => FFld.pmul D.p D.k D.m t D.k c) 1 D.k = v := ⟨_, rfl⟩
  rw [ht1] at HT1 e3 l1
  rw [ht2] at HT2 e3 l2
  rw [ht3] at HT3 e3
  rw [hn1] at HN1 e4 l3
  rw [hn2] at HN2 e4 l4
  rw [hn3] at HN3 e4
  clear ht1 ht2 ht3 hn1 hn2 hn3 ha1 ha3
  obtain ⟨p, hp⟩ : ∃ p, D.p = p := ⟨_, rfl⟩
  obtain ⟨k, hk⟩ : ∃ k, D.k = k := ⟨_, rfl⟩
  have HPP := Kept.mk hp
  have HKK := Kept.mk hk
  rw [hp] at hp2 hp6 l1 l2 l3 l4 e3 e4 HFN
  rw [hk] at hk1 hk40
  try rw [hp]
  try rw [hk]
  clear hp hk
  obtain ⟨sm, hsm⟩ : ∃ v, t1 + t2 = v := ⟨_, rfl⟩
  obtain ⟨pm, hpm⟩ : ∃ v, n1 * n2 = v := ⟨_, rfl⟩
  have hpl : pm ≤ 4294967296 := by
    rw [← hpm]
    exact Nat.le_trans (Nat.mul_le_mul (show n1 ≤ 65536 by omega) (show n2 ≤ 65536 by omega)) (by decide)
  rw [hsm] at e3
  rw [hpm] at e4
  have es : (t1 : Int) + t2 = sm := by omega
  have ep : (n1 : Int) * n2 = pm := by rw [← hpm]; push_cast; rfl
  have hsl : sm ≤ 131072 := by omega
  have er3 : (sm : Int) % (p : Int) = t3 := by rw [e3]; rfl
  have er4 : (pm : Int) % (p : Int) = n3 := by rw [e4]; rfl
  have et3 : (sm : Int).tmod (p : Int) = t3 := by rw [Int.tmod_eq_emod_of_nonneg (by omega)]; exact er3
  have et4 : (pm : Int).tmod (p : Int) = n3 := by rw [Int.tmod_eq_emod_of_nonneg (by omega)]; exact er4
  have et5 : ((t1 : Int) + t2).tmod (p : Int) = t3 := by rw [es]; exact et3
  have et6 : ((n1 : Int) * n2).tmod (p : Int) = n3 := by rw [ep]; exact et4
  have ew5 : IntKind.i64.wrap ((t1 : Int) + t2) = (t1 : Int) + t2 := wi (by omega) (by omega)
  have ew6 : IntKind.i64.wrap ((n1 : Int) * n2) = (n1 : Int) * n2 := by rw [ep]; exact wi (by omega) (by omega)
  have d1 : decide ((t1 : Int) < 0) = false := by rw [decide_eq_false_iff_not]; omega
  have d2 : decide ((p : Int) ≤ t1) = false := by rw [decide_eq_false_iff_not]; omega
  have d3 : decide ((n1 : Int) < 0) = false := by rw [decide_eq_false_iff_not]; omega
  have d4 : decide ((p : Int) ≤ n1) = false := by rw [decide_eq_false_iff_not]; omega
  have d5 : ¬ (p ≤ t1) := by omega
  have d6 : ¬ (p ≤ n1) := by omega
  have d7 : ¬ ((p : Int) ≤ t1) := by omega
  have d8 : ¬ ((p : Int) ≤ n1) := by omega
  have d9 : ¬ ((t1 : Int) < 0) := by omega
  have d10 : ¬ ((n1 : Int) < 0) := by omega
  have pz : ((p : Int) == 0) = false := by rw [beq_eq_false_iff_ne]; omega
  have pz2 : ¬ ((p : Int) = 0) := by omega
  have pz3 : ¬ (p = 0) := by omega
  have ne3 : ((t3 : Int) != (t3 : Int)) = false := by simp
  have ne4 : ((n3 : Int) != (n3 : Int)) = false := by simp
  clear hsm hpm e3 e4 es ep et3 et4 er3 er4
  go_wp2_with fail
  refine (HT1.out _ (Below.refl _ _)).mono ?_
  rintro e w3 ⟨hb3, rfl⟩
  have HB3 := Kept.mk hb3
  clear hb3
  go_wp2_with fail
  refine (HT2.out _ HB3.out).mono ?_
  rintro e w4 ⟨hb4, rfl⟩
  have HB4 := Kept.mk (bstep HB3.out hb4)
  clear hb4
  go_wp2_with fail
  refine (HN1.out _ HB4.out).mono ?_
  rintro e w5 ⟨hb5, rfl⟩
  have HB5 := Kept.mk (bstep HB4.out hb5)
  clear hb5
  go_wp2_with fail
  refine (HN2.out _ HB5.out).mono ?_
  rintro e w6 ⟨hb6, rfl⟩
  have HB6 := Kept.mk (bstep HB5.out hb6)
  clear hb6 HB3 HB4 HB5 HT1 HT2 HN1 HN2
  go_wp2
  go_region_held3 (fun _ => True)
    (first | exact trivial | go_keep)
    ((first
      | (go_at_call 41; (with_reducible refine (HA.out _ ?h1).mono ?_); (case h1 => exact (by first | exact HB6.out | exact HB6.out.drew)); rintro e u1 ⟨hc1, rfl⟩; have hy1 := Kept.mk (bstep (show Below v2.heap.size v2 _ from (by first | exact HB6.out | exact HB6.out.drew)) hc1); clear hc1)
      | (go_at_call 44; (with_reducible refine (HT3.out _ ?h1).mono ?_); (case h1 => exact hy1.out); rintro e u2 ⟨hc2, rfl⟩; have hy2 := Kept.mk (bstep hy1.out hc2); clear hc2)
      | (go_at_call 43; (with_reducible refine (HM.out _ ?h1).mono ?_); (case h1 => exact hy2.out); rintro e u3 ⟨hc3, rfl⟩; have hy3 := Kept.mk (bstep hy2.out hc3); clear hc3)
      | (go_at_call 45; (with_reducible refine (HN3.out _ ?h1).mono ?_); (case h1 => exact hy3.out); rintro e u4 ⟨hc4, rfl⟩; have hy4 := Kept.mk (bstep hy3.out hc4); clear hc4)))
  clear hy1 hy2 hy3 HB6 HA HT3 HM HN3
  have HTD := Kept.mk (FFld.minT_dvd HD.out hrq ht)
  have HSM := Kept.mk (FFld.minF_small HD.out hrq ht)
  have HTP := Kept.mk (FFld.minF_top HD.out hrq t)
  have HLT := Kept.mk (minF_lt hpk r t)
  have HLN := Kept.mk (minF_len D hpk r t)
  have HIR := Kept.mk (fun (D' : FFld.FD) (hD' : D'.Ok) h1 h2 => FFld.min_irr HD.out hD' h1 h2 hrq ht)
  have HRT := Kept.mk (fun i => FFld.min_root HD.out hrq ht i)
  have htk : t ≤ 40 := by have := ht.2.1; have := HKK.out; omega
  have ht0 : 1 ≤ t := ht.1
  obtain ⟨ml, hml⟩ : ∃ l, minF D HD.out.pre.pk r t = l := ⟨_, rfl⟩
  rw [hml] at HMN HSM HTP HLT HLN HIR HRT
  clear hml ht
  go_wp2_with fail
  refine (HMN.out _ hy4.out).mono ?_
  rintro e w7 ⟨hb7, vm, rfl, hs7⟩
  have HB7 := Kept.mk (bstep hy4.out hb7)
  obtain ⟨am, cm, rfl, _, _⟩ := hs7.form
  rw [FFld.ints_len] at hs7 ⊢
  obtain ⟨n, hn⟩ : ∃ n, ml.length = n := ⟨_, rfl⟩
  have hnt : n = t + 1 := hn.symm.trans HLN.out
  obtain ⟨bs, os, rfl, hbs, hcl⟩ := (show Sl .i64 w7 (.slice am n cm) (ints ml) from by rw [← hn]; exact hs7).news_at t (by rw [FFld.ints_len]; omega)
  rw [FFld.ints_get, HTP.out] at hcl
  have HS7 : Kept (Sl .i64 w7 (.slice (some ⟨bs, os, none⟩) n cm) (ints ml)) := ⟨by rw [← hn]; exact hs7⟩
  have htz : FFld.Tz ml := .inr (by rw [hn, show n - 1 = t by omega, HTP.out]; omega)
  have HTZ := Kept.mk htz
  have HNL := Kept.mk hn
  rw [hn]
  have en1 : decide ((n : Int) < 2) = false := by rw [decide_eq_false_iff_not]; omega
  have en2 : (n : Int) - 1 = t := by omega
  have en3 : decide ((t : Int) < n) = true := by rw [decide_eq_true_eq]; omega
  have en4 : (k : Int) % (t : Int) = 0 := by
    have := HTD.out
    rw [HKK.out] at this
    have h2 : ((k % t : Nat) : Int) = 0 := by rw [this]; rfl
    rw [← h2]; push_cast; rfl
  have en5 : (k : Int).tmod (t : Int) = 0 := by rw [Int.tmod_eq_emod_of_nonneg (by omega)]; exact en4
  have en6 : ((t : Int) == 0) = false := by rw [beq_eq_false_iff_ne]; omega
  have en7 : ¬ ((t : Int) = 0) := by omega
  have en8 : ¬ (t = 0) := by omega
  clear hb7 hs7 hn hnt htz hy4 HMN
  go_wp2_with fail
  refine (HFN.out _).mono ?_
  rintro e w8 ⟨hb8, hcase⟩
  rcases hcase with ⟨D', b', hq', hbl', rfl, hf'⟩ | ⟨hno, rfl⟩
  · have HB8 := Kept.mk (bstep HB7.out hb8)
    obtain ⟨hD', _⟩ := hf'.open
    obtain ⟨hp', hk'⟩ := prime_sub HD.out hD' (by rw [HPP.out]; exact hq')
    have hlt' : ∀ a ∈ ml, a < D'.p ^ D'.k := fun a ha => by rw [hp', hk', Nat.pow_one]; exact HSM.out a ha
    have HFI := Kept.mk (firreducible_of hD' (.slice (some ⟨bs, os, none⟩) (ints ml).length cm) ml w8 hf' (by rw [FFld.ints_len, HNL.out]; exact HS7.out.below hb8) (cErr_poly hlt' HTZ.out (by have := HNL.out; omega)) hlt' HTZ.out (by have := HNL.out; omega)
      (fun W hW h2 => fixed_any hD' b' _ ml W (hf'.below hW) (by rw [FFld.ints_len, HNL.out]; exact (HS7.out.below hb8).below hW) hlt' HTZ.out h2 (by have := HNL.out; omega)))
    rw [FFld.ints_len, HNL.out] at HFI
    have HII := Kept.mk (HIR.out D' hD' hp' hk')
    have HS8 := Kept.mk (HS7.out.below hb8)
    clear hb8 hf' hlt' hbl' hq'
    go_wp2_with fail
    refine HFI.out.mono ?_
    rintro e w9 ⟨hb9, bb, rfl, hbb⟩
    obtain rfl : bb = true := hbb.2 HII.out
    have HB9 := Kept.mk (bstep HB8.out hb9)
    have HS9 := Kept.mk (HS8.out.below hb9)
    clear hb9 hbb HFI HII
    have HVL := Kept.mk (fun i z (hz : cjg HD.out.pre.pk r i = z) W (hW : Below w9.heap.size w9 W) => by
      have hzq : z < D.p ^ D.k := by rw [← hz]; exact cjg_lt _ r hrq i
      have h0 := HRT.out i
      rewrite [hz] at h0
      have := fvalue_any (.slice (some ⟨bs, os, none⟩) (ints ml).length cm) ml (z : Int) z W ((HF2.out.below HB9.out).below hW) (by rw [FFld.ints_len, HNL.out]; exact HS9.out.below hW) (cErr_poly HLT.out HTZ.out (by have := HNL.out; omega)) HLT.out (BD.out z hzq).1 (BD.out z hzq).2 (MD.out z hzq) hzq (by have := HNL.out; omega)
      rewrite [h0, FFld.ints_len, HNL.out] at this
      exact this)
    have HPW := Kept.mk (fun i z (hz : cjg HD.out.pre.pk r i = z) v (hv : cjg HD.out.pre.pk r (i + 1) = v) W (hW : Below w9.heap.size w9 W) => by
      have hzq : z < D.p ^ D.k := by rw [← hz]; exact cjg_lt _ r hrq i
      have := fpow_p HD.out z v W ((HF2.out.below HB9.out).below hW) hzq (by rw [← hz]; exact hv)
      rewrite [HPP.out] at this
      exact this)
    have HCK : Kept (cjg HD.out.pre.pk r k = r) := ⟨(congrArg (cjg HD.out.pre.pk r) HKK.out).symm.trans (FFld.cjg_k HD.out hrq)⟩
    go_wp2
    go_loopw [22, 23] (fun zv iv wr => ∃ (i z : Nat), i ≤ k ∧ iv = .int .i64 i ∧ zv = .int .i64 z ∧ Kept (cjg HD.out.pre.pk r i = z) ∧ Kept (Below w9.heap.size w9 wr)) (fun _ iv _ => k - (intOf iv).toNat)
    case atStart => exact ⟨0, r, Nat.zero_le _, rfl, rfl, ⟨rfl⟩, ⟨Below.refl _ _⟩⟩
    case round =>
      obtain ⟨i, z, hik, rfl, rfl, hz, hbw⟩ := hrel
      by_cases hlt : i < k
      · obtain ⟨v, hv⟩ : ∃ v, cjg HD.out.pre.pk r (i + 1) = v := ⟨_, rfl⟩
        have HV := Kept.mk hv
        have hV := Kept.mk (HVL.out i z hz.out)
        have hP := Kept.mk (HPW.out i z hz.out v hv)
        clear hv
        go_wp2_with fail
        refine (hV.out _ hbw.out).mono ?_
        rintro e wA ⟨hbA, rfl⟩
        have HBA := Kept.mk (bstep hbw.out hbA)
        clear hbA
        go_wp2_with fail
        refine (hP.out _ HBA.out).mono ?_
        rintro e wB ⟨hbB, rfl⟩
        have HBB := Kept.mk (bstep HBA.out hbB)
        clear hbB
        go_wp2
        go_roundw
        case rel => exact ⟨i + 1, v, by omega, by go_num, rfl, HV, HBB⟩
        case measure => simp [intOf] <;> omega
      · obtain rfl : i = k := by omega
        obtain rfl : z = r := hz.out.symm.trans HCK.out
        have ezz : ((z : Int) == (z : Int)) = true := by simp
        go_wp2_with fail
        refine (awake_any _).mono ?_
        rintro e wC ⟨hbC, rfl⟩
        have HBC := Kept.mk (bstep (bstep (bstep HB2.out HB9.out) hbw.out) hbC)
        clear hbC
        go_wp2
        go_ret
        exact ⟨HBC.out, rfl⟩
  · exfalso
    apply hno
    have := FFld.fit_pow HD.out.pre.prime (Nat.le_refl 1) (by rw [Nat.pow_one]; exact HD.out.p6)
    rw [Nat.pow_one, HPP.out] at this
    exact this
end Go.Proofs.Ytfhhnfpapgfnmaa
