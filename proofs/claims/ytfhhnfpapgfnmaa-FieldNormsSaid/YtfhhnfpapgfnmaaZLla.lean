/-
  Texts of the proof, merged by program: Lla.
-/
import Derived.Test.YtfhhnfpapgfnmaaZLca
import Derived.Test.YtfhhnfpapgfnmaaZ18
import Derived.Test.YtfhhnfpapgfnmaaZ19
set_option linter.unusedVariables false
set_option linter.unusedSimpArgs false
namespace Go.Proofs.Ytfhhnfpapgfnmaa
open Go Go.RowKit Go.Deep
open FFld (ints)
namespace FFld
theorem ppow_of_one {p k m : Nat} (h : PK p k m) (n : Nat) : ppow h 1 n = 1 := by
  induction n with
  | zero => exact ppow_zero h 1 h.one_lt
  | succ n ih => rw [ppow_succ h 1 n h.one_lt, ih, pmul_by_one h 1 h.one_lt]
theorem FD.Ok.pow_red {D : FD} (h : D.Ok) {a : Nat} (ha : a < D.p ^ D.k) (h0 : a ≠ 0) (n : Nat) : ppow h.pre.pk a (n % (D.p ^ D.k - 1)) = ppow h.pre.pk a n := by
  have hk := h.pre.pk
  have e := h.fermat ha h0
  have hd := Nat.div_add_mod n (D.p ^ D.k - 1)
  conv => rhs; rw [← hd]
  rw [← ppow_add hk a _ _ ha, ← ppow_mul hk a _ _ ha, e, ppow_of_one, pmul_comm hk 1 _ hk.one_lt (ppow_lt _ _ _), pmul_by_one hk _ (ppow_lt _ _ _)]
theorem ppow_zero_pos {p k m : Nat} (h : PK p k m) {n : Nat} (hn : 0 < n) : ppow h 0 n = 0 := by
  obtain ⟨n, rfl⟩ : ∃ j, n = j + 1 := ⟨n - 1, by omega⟩
  rw [ppow_succ h 0 n (Nat.pow_pos h.p0), pmul_zero_right h]
end FFld
theorem el_mod {D : FFld.FD} {a : Nat} (ha : a < D.p ^ D.k) : (a : Int) % D.q = a := by
  have hq : D.q = D.p ^ D.k := rfl
  rw [hq]
  exact Int.emod_eq_of_lt (by omega) (by omega)
/-- The power of an element, n being positive. -/
theorem fpow_nat {D : FFld.FD} {b : Nat} (hD : D.Ok) (a n : Nat) (w : World) (hf : FldB D w b) (ha : a < D.p ^ D.k) (hn : 0 < n) :
    Calls Try.prog 28 #[.pointer (some ⟨b, 0, none⟩), .int .i64 a, .int .i64 n] w (RB w (.tuple #[.int .i64 (FFld.ppow hD.pre.pk a n : Nat), .int .i64 0])) := by
  have hq : D.p ^ D.k ≤ 65536 := hD.pre.small
  have h1 := hD.pre.pk.one_lt
  by_cases h0 : a = 0
  · subst h0
    rw [FFld.ppow_zero_pos hD.pre.pk hn]
    refine (fpow_none ((0 : Nat) : Int) n w hf (by omega) (by omega) (el_mod ha) (by omega)).mono ?_
    rintro e w' ⟨rfl, rfl⟩
    refine ⟨Below.refl _ _, ?_⟩
    rw [if_neg (by omega)]
    rfl
  · have e : (n : Int) % ((D.q : Int) - 1) = ((n % (D.p ^ D.k - 1) : Nat) : Int) := by
      have hqq : D.q = D.p ^ D.k := rfl
      rw [hqq, show ((D.p ^ D.k : Nat) : Int) - 1 = ((D.p ^ D.k - 1 : Nat) : Int) from by omega]
      rfl
    have h := fpow_any hD (a : Int) (n : Int) w hf (by omega) (by omega) a (el_mod ha) ha h0 (by omega) _ e
    rw [hD.pow_red ha h0] at h
    exact h
section
variable {D : FFld.FD} {b : Nat} {W : World}
theorem el_le (hD : D.Ok) {x : Nat} (hx : x < D.p ^ D.k) : x ≤ 65536 := by
  have : D.p ^ D.k ≤ 65536 := hD.pre.small
  omega
theorem el_add (hf : FldB D W b) {x y z : Nat} (hx : x < D.p ^ D.k) (hy : y < D.p ^ D.k) (h : FFld.padd D.p D.k x y = z) : Calls Try.prog 41 #[.pointer (some ⟨b, 0, none⟩), .int .i64 x, .int .i64 y] W (RB W (.int .i64 z)) := by
  have h1 := el_le hf.ok hx
  have h2 := el_le hf.ok hy
  have := fadd_any (x : Int) (y : Int) W hf (by omega) (by omega) (by omega) (by omega) x y (el_mod hx) (el_mod hy) hx hy
  rw [h] at this
  exact this
theorem el_mul (hf : FldB D W b) {x y z : Nat} (hx : x < D.p ^ D.k) (hy : y < D.p ^ D.k) (h : FFld.pmul D.p D.k D.m x D.k y = z) : Calls Try.prog 43 #[.pointer (some ⟨b, 0, none⟩), .int .i64 x, .int .i64 y] W (RB W (.int .i64 z)) := by
  have h1 := el_le hf.ok hx
  have h2 := el_le hf.ok hy
  have := fmul_any (x : Int) (y : Int) W hf (by omega) (by omega) (by omega) (by omega) x y (el_mod hx) (el_mod hy) hx hy
  rw [h] at this
  exact this
theorem el_sub (hf : FldB D W b) {x y z : Nat} (hx : x < D.p ^ D.k) (hy : y < D.p ^ D.k) (h : FFld.padd D.p D.k x (FFld.pscl D.p D.k (D.p - 1) y) = z) : Calls Try.prog 42 #[.pointer (some ⟨b, 0, none⟩), .int .i64 x, .int .i64 y] W (RB W (.int .i64 z)) := by
  have h1 := el_le hf.ok hx
  have h2 := el_le hf.ok hy
  have := fsub_any (x : Int) (y : Int) W hf (by omega) (by omega) (by omega) (by omega) x y (el_mod hx) (el_mod hy) hx hy
  rw [h] at this
  exact this
theorem el_div (hf : FldB D W b) {x y z : Nat} (hx : x < D.p ^ D.k) (hy : y < D.p ^ D.k) (h0 : y ≠ 0) (h : FFld.pmul D.p D.k D.m x D.k (FFld.ppow hf.ok.pre.pk y (D.q - 2)) = z) : Calls Try.prog 27 #[.pointer (some ⟨b, 0, none⟩), .int .i64 x, .int .i64 y] W (RB W (.tuple #[.int .i64 z, .int .i64 0])) := by
  have h1 := el_le hf.ok hx
  have h2 := el_le hf.ok hy
  have := fdiv_any hf.ok (x : Int) (y : Int) W hf (by omega) (by omega) (by omega) (by omega) x y (el_mod hx) (el_mod hy) hx hy h0
  rw [h] at this
  exact this
theorem el_pow (hf : FldB D W b) {x n z : Nat} (hx : x < D.p ^ D.k) (hn : 0 < n) (h : FFld.ppow hf.ok.pre.pk x n = z) : Calls Try.prog 28 #[.pointer (some ⟨b, 0, none⟩), .int .i64 x, .int .i64 n] W (RB W (.tuple #[.int .i64 z, .int .i64 0])) := by
  have := fpow_nat hf.ok x n W hf hx hn
  rw [h] at this
  exact this
end
end Go.Proofs.Ytfhhnfpapgfnmaa
