/-
  Texts of the proof, merged by program: Rta Rtp.
-/
import Derived.Test.YtfhhnfpapgfnmaaZLla
set_option linter.unusedVariables false
/-! Square roots in a field: theory. -/
namespace Go.Proofs.Ytfhhnfpapgfnmaa
open Go Go.RowKit
namespace FFld
theorem Dom.neg_mul {α : Type} (F : Dom α) (b c : α) : F.mul (F.neg b) c = F.neg (F.mul b c) := by
  refine F.neg_unique ?_
  rw [← F.add_mul, F.add_neg, F.zero_mul]
theorem Dom.sq_eq {α : Type} (F : Dom α) {a b : α} (h : F.mul a a = F.mul b b) : a = b ∨ a = F.neg b := by
  have e : F.mul (F.add a (F.neg b)) (F.add a b) = F.zero := by
    rw [F.add_mul, F.mul_add, F.neg_mul, F.mul_add, F.mul_comm b a, h]
    generalize F.mul b b = s
    generalize F.mul a b = t
    have : F.neg (F.add t s) = F.neg (F.add s t) := by rw [F.add_comm]
    rw [this, F.add_neg]
  rcases F.nzd _ _ e with e | e
  · left
    have h2 : F.add (F.add a (F.neg b)) b = b := by rw [e, F.zero_add]
    rw [F.add_assoc, F.add_comm (F.neg b) b, F.add_neg, F.add_zero] at h2
    exact h2
  · right
    exact F.neg_unique (by rw [F.add_comm]; exact e)
theorem FD.Ok.sq_eq {D : FD} (h : D.Ok) {x y : Nat} (hx : x < D.p ^ D.k) (hy : y < D.p ^ D.k) (e : pmul D.p D.k D.m x D.k x = pmul D.p D.k D.m y D.k y) : x = y ∨ x = pscl D.p D.k (D.p - 1) y := by
  have := (FD.dom h.nzd).sq_eq (a := ⟨x, hx⟩) (b := ⟨y, hy⟩) (Subtype.ext e)
  rcases this with e | e
  · exact Or.inl (congrArg Subtype.val e)
  · exact Or.inr (congrArg Subtype.val e)
theorem neg_sq {p k m : Nat} (h : PK p k m) {y : Nat} (hy : y < p ^ k) : pmul p k m (pscl p k (p - 1) y) k (pscl p k (p - 1) y) = pmul p k m y k y := by
  have hl := pscl_lt h (p - 1) y
  have hp := h.p2
  rw [pmul_scl h, pmul_comm h _ _ hy hl, pmul_scl h, pscl_pscl h, ← pscl_mod h]
  have e : (p - 1) * (p - 1) % p = 1 := by
    obtain ⟨d, rfl⟩ : ∃ d, p = d + 2 := ⟨p - 2, by omega⟩
    have : (d + 2 - 1) * (d + 2 - 1) = 1 + (d + 2) * d := by
      rw [show d + 2 - 1 = d + 1 from rfl, Nat.add_mul, Nat.mul_add, Nat.add_mul]
      omega
    rw [this, Nat.add_mul_mod_self_left]
    exact Nat.mod_eq_of_lt (by omega)
  rw [e, pscl_one h _ (pmul_lt h _ _ _)]
/-- r is the least element whose square is a. -/
def RootIs (D : FD) (a r : Nat) : Prop := r < D.p ^ D.k ∧ pmul D.p D.k D.m r D.k r = a ∧ ∀ x, x < D.p ^ D.k → pmul D.p D.k D.m x D.k x = a → r ≤ x
theorem RootIs.zero {D : FD} (h : D.Ok) : RootIs D 0 0 := ⟨Nat.pow_pos h.pre.pk.p0, pmul_zero_right h.pre.pk _ _, fun x _ _ => Nat.zero_le x⟩
theorem FD.Ok.root_even {D : FD} (h : D.Ok) {n r s a : Nat} (hr : ppow h.pre.pk D.g n = r) (ha : ppow h.pre.pk D.g (n + n) = a) (hs : pscl D.p D.k (D.p - 1) r = s) : RootIs D a (if s < r then s else r) := by
  have hrq : r < D.p ^ D.k := by rw [← hr]; exact ppow_lt _ _ _
  have hsq : s < D.p ^ D.k := by rw [← hs]; exact pscl_lt h.pre.pk _ _
  have e1 : pmul D.p D.k D.m r D.k r = a := by rw [← ha, ← ppow_add _ _ _ _ h.gq, hr]
  have e2 : pmul D.p D.k D.m s D.k s = a := by rw [← hs, neg_sq h.pre.pk hrq, e1]
  have hl : ∀ x, x < D.p ^ D.k → pmul D.p D.k D.m x D.k x = a → x = r ∨ x = s := fun x hx e => by
    rw [← hs]
    exact h.sq_eq hx hrq (e.trans e1.symm)
  by_cases hlt : s < r
  · rw [if_pos hlt]
    exact ⟨hsq, e2, fun x hx e => by rcases hl x hx e with rfl | rfl <;> omega⟩
  · rw [if_neg hlt]
    exact ⟨hrq, e1, fun x hx e => by rcases hl x hx e with rfl | rfl <;> omega⟩
theorem FD.Ok.root_none {D : FD} (h : D.Ok) {n : Nat} (hn : n < D.p ^ D.k - 1) (ho : n % 2 = 1) (he : (D.p ^ D.k - 1) % 2 = 0) (x : Nat) (hx : x < D.p ^ D.k) : pmul D.p D.k D.m x D.k x ≠ ppow h.pre.pk D.g n := by
  intro e
  by_cases h0 : x = 0
  · subst h0
    rw [pmul_zero_right h.pre.pk] at e
    exact h.pow_ne n e.symm
  · obtain ⟨l, hl, hla⟩ := h.log x hx h0
    rw [← hla, ppow_add _ _ _ _ h.gq, ← h.pow_mod] at e
    have := h.pow_inj (Nat.mod_lt _ (by omega)) hn e
    have e2 := Nat.div_add_mod (l + l) (D.p ^ D.k - 1)
    obtain ⟨c, hc⟩ : ∃ c, D.p ^ D.k - 1 = 2 * c := ⟨(D.p ^ D.k - 1) / 2, by omega⟩
    rw [this, hc, Nat.mul_assoc] at e2
    omega
end FFld
end Go.Proofs.Ytfhhnfpapgfnmaa

set_option linter.unusedVariables false
namespace Go.Proofs.Ytfhhnfpapgfnmaa
open Go Go.RowKit
theorem tmod2 (l : Nat) : (l : Int).tmod 2 = ((l % 2 : Nat) : Int) := by rw [Int.tmod_eq_emod_of_nonneg (by omega)]; omega
theorem tdiv2 (l : Nat) : (l : Int).tdiv 2 = ((l / 2 : Nat) : Int) := by rw [Int.tdiv_eq_ediv_of_nonneg (by omega)]; omega
theorem tsum2 (l m : Nat) : ((l : Int) + m).tmod 2 = (((l + m) % 2 : Nat) : Int) ∧ ((l : Int) + m).tdiv 2 = (((l + m) / 2 : Nat) : Int) := by
  have e : (l : Int) + m = ((l + m : Nat) : Int) := by omega
  rw [e]
  exact ⟨tmod2 _, tdiv2 _⟩
theorem wsum {l m : Nat} (h1 : l ≤ 65536) (h2 : m ≤ 65536) : wrap64 ((l : Int) + m) = (l : Int) + m ∧ IntKind.i64.wrap ((l : Int) + m) = (l : Int) + m := ⟨w64 (by omega) (by omega), wi (by omega) (by omega)⟩
theorem odd_tmod {l : Nat} (h : l % 2 = 1) : (l : Int).tmod 2 = 1 := by rw [tmod2, h]; rfl
theorem even_tmod {l : Nat} (h : ¬ l % 2 = 1) : (l : Int).tmod 2 = 0 := by rw [tmod2, show l % 2 = 0 by omega]; rfl
theorem half_even {l : Nat} (h6 : l ≤ 65536) (h : ¬ l % 2 = 1) : ∃ d : Nat, d + d = l ∧ d ≤ 65536 ∧ (l : Int).tdiv 2 = d := ⟨l / 2, by omega, by omega, tdiv2 l⟩
theorem half_odd {l m : Nat} (h1 : l ≤ 65536) (h2 : m ≤ 65536) (hl : l % 2 = 1) (hm : m % 2 = 1) : ∃ d : Nat, d + d = l + m ∧ d ≤ 65536 ∧ ((l : Int) + m).tmod 2 = 0 ∧ ((l : Int) + m).tdiv 2 = d := by
  have h0 : ((l : Int) + m).tmod 2 = 0 := by rw [(tsum2 l m).1, show (l + m) % 2 = 0 by omega]; rfl
  exact ⟨(l + m) / 2, by omega, by omega, h0, (tsum2 l m).2⟩
theorem odd_sum {l m : Nat} (hl : l % 2 = 1) (hm : ¬ m % 2 = 1) : ((l : Int) + m).tmod 2 = 1 := by
  rw [(tsum2 l m).1, show (l + m) % 2 = 1 by omega]; rfl
theorem pred_eq {q m : Nat} (h1 : q - 1 = m) (h2 : 1 < q) (h3 : q ≤ 65536) : q = m + 1 ∧ m ≤ 65536 ∧ (q : Int) - 1 = m ∧ wrap64 ((q : Int) - 1) = m ∧ IntKind.i64.wrap ((q : Int) - 1) = m := by
  have e : (q : Int) - 1 = m := by omega
  exact ⟨by omega, by omega, e, by rw [e]; exact w64 (by omega) (by omega), by rw [e]; exact wi (by omega) (by omega)⟩
end Go.Proofs.Ytfhhnfpapgfnmaa
