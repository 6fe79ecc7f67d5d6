/-
  Texts of the proof, merged by program: Gt Mu Sd Fpo.
-/
import Derived.Test.YtfhhnfpapgfnmaaZ16
import Derived.BigQuiet
import Derived.Test.YtfhhnfpapgfnmaaZ14
set_option linter.unusedVariables false
set_option linter.unusedSimpArgs false
namespace Go.Proofs.Ytfhhnfpapgfnmaa
open Go Go.RowKit
open FFld (ints)
set_option maxRecDepth 20000 in
set_option maxHeartbeats 1000000 in
theorem order_any {D : FFld.FD} {b : Nat} (w : World) (hf : FldB D w b) :
    Calls Try.prog 21 #[.pointer (some ⟨b, 0, none⟩)] w (fun e w' => w = w' ∧ e = .returned (.int .i64 D.q)) := by
  obtain ⟨h, T, x, fs, fp, fw, ms, ml, hb, _, _, _⟩ := hf.open
  obtain ⟨c0, c1, c2, c3, c4, c5⟩ := six_cells hb
  go_enter Try.func21, Try.ntmps21
  go_wp2
  go_ret
  exact ⟨rfl, rfl⟩
set_option maxRecDepth 20000 in
set_option maxHeartbeats 1000000 in
theorem generator_any {D : FFld.FD} {b : Nat} (w : World) (hf : FldB D w b) :
    Calls Try.prog 25 #[.pointer (some ⟨b, 0, none⟩)] w (fun e w' => w = w' ∧ e = .returned (.int .i64 D.g)) := by
  obtain ⟨h, T, x, fs, fp, fw, ms, ml, hb, _, _, _⟩ := hf.open
  obtain ⟨c0, c1, c2, c3, c4, c5⟩ := six_cells hb
  go_enter Try.func25, Try.ntmps25
  go_wp2
  go_ret
  exact ⟨rfl, rfl⟩
set_option maxRecDepth 20000 in
set_option maxHeartbeats 1000000 in
theorem fmodulus_any {D : FFld.FD} {b : Nat} (w : World) (hf : FldB D w b) :
    Calls Try.prog 23 #[.pointer (some ⟨b, 0, none⟩)] w (fun e w' => Below w.heap.size w w' ∧ ∃ (v : Value) (ml : List Nat), e = .returned v ∧ Sl .i64 w' v (ints ml) ∧ FFld.Digs D.p D.m ml) := by
  obtain ⟨h, T, x, fs, fp, fw, ms, ml, hb, _, hs, hd⟩ := hf.open
  obtain ⟨c0, c1, c2, c3, c4, c5⟩ := six_cells hb
  have hk : ml.length ≤ 100000 := by
    have h17 : D.m < D.p ^ (D.k + 1) := by
      have hp2 := h.pre.prime.1
      have e1 : 2 * D.p ^ D.k ≤ D.p ^ (D.k + 1) := by rw [Nat.pow_succ']; exact Nat.mul_le_mul_right _ hp2
      have hpos : 0 < D.p ^ D.k := Nat.pow_pos (by omega)
      by_cases hk1 : D.k = 1
      · rw [h.pre.mod1 hk1]
        have := Nat.pow_lt_pow_right (a := D.p) (by omega) (show 1 < D.k + 1 by omega)
        rw [Nat.pow_one] at this
        exact this
      · have := (h.pre.mod2 (by have := h.pre.k1; omega)).2.1
        unfold FFld.FD.q at this
        omega
    have h1 := hd.len h.pre.prime.1 h17
    have h2 : D.k ≤ 40 := FFld.len_of_pow (Nat.pow_le_pow_left h.pre.prime.1 _) (show D.p ^ D.k ≤ 1099511627776 by have := h.pre.small; unfold FFld.FD.q at this; omega)
    omega
  have hC := Kept.mk (clone_any hs (by rw [FFld.ints_len]; omega))
  have HD := Kept.mk hd
  clear hd hs
  go_enter Try.func23, Try.ntmps23
  go_wp2_with fail
  refine hC.out.mono ?_
  rintro e w1 ⟨hb1, v1, rfl, hm1⟩
  have HB1 := Kept.mk hb1
  have HM1 := Kept.mk hm1.sl
  clear hb1 hm1 hC
  go_wp2
  go_ret
  exact ⟨HB1.out, _, _, rfl, HM1.out, HD.out⟩
set_option maxRecDepth 20000 in
set_option maxHeartbeats 1000000 in
theorem fprime_any {D : FFld.FD} {b : Nat} (w : World) (hf : FldB D w b) :
    Calls Try.prog 20 #[.pointer (some ⟨b, 0, none⟩)] w (RQ w (.tuple #[.int .i64 D.p, .int .i64 D.k])) := by
  obtain ⟨h, T, x, fs, fp, fw, ms, ml, hb, _, _, _⟩ := hf.open
  obtain ⟨c0, c1, c2, c3, c4, c5⟩ := six_cells hb
  go_enter Try.func20, Try.ntmps20
  go_wp2
  go_quiet (fail)
  go_wp2
  go_ret2
  exact ⟨rfl, _, rfl⟩
set_option maxRecDepth 20000 in
set_option maxHeartbeats 1000000 in
theorem isElement_any {D : FFld.FD} {b : Nat} (a : Int) (w : World) (hf : FldB D w b) :
    Calls Try.prog 133 #[.pointer (some ⟨b, 0, none⟩), .int .i64 a] w (fun e w' => w = w' ∧ e = .returned (.bool (decide (0 ≤ a ∧ a < D.q)))) := by
  obtain ⟨h, T, x, fs, fp, fw, ms, ml, hb, _, _, _⟩ := hf.open
  obtain ⟨c0, c1, c2, c3, c4, c5⟩ := six_cells hb
  by_cases h0 : 0 ≤ a
  · have hd : decide (a ≥ 0) = true := by simp [h0]
    rw [show decide (0 ≤ a ∧ a < (D.q : Int)) = decide (a < (D.q : Int)) by simp [h0]]
    go_enter Try.func133, Try.ntmps133
    go_wp2
    go_ret
    exact ⟨rfl, rfl⟩
  · have hd : decide (a ≥ 0) = false := by simp; omega
    rw [show decide (0 ≤ a ∧ a < (D.q : Int)) = false by simp [h0]]
    go_enter Try.func133, Try.ntmps133
    go_wp2
    go_ret
    exact ⟨rfl, rfl⟩
end Go.Proofs.Ytfhhnfpapgfnmaa

set_option linter.unusedVariables false
set_option linter.unusedSimpArgs false
namespace Go.Proofs.Ytfhhnfpapgfnmaa
open Go Go.RowKit
open FFld (ints)
theorem red_nat {D : FFld.FD} (h : D.Ok) (a : Int) : ∃ r : Nat, a % D.q = r ∧ r < D.p ^ D.k := by
  have h1 := h.pre.pk.one_lt
  have hq : D.q = D.p ^ D.k := rfl
  rw [hq]
  refine ⟨(a % ((D.p ^ D.k : Nat) : Int)).toNat, ?_, ?_⟩
  · exact (Int.toNat_of_nonneg (Int.emod_nonneg _ (by omega))).symm
  · have := Int.emod_lt_of_pos a (b := ((D.p ^ D.k : Nat) : Int)) (by omega)
    omega
set_option maxRecDepth 20000 in
set_option maxHeartbeats 4000000 in
theorem fmul_any {D : FFld.FD} {b : Nat} (x y : Int) (w : World) (hf : FldB D w b) (hx0 : -9223372036854775808 ≤ x) (hx1 : x ≤ 9223372036854775807) (hy0 : -9223372036854775808 ≤ y) (hy1 : y ≤ 9223372036854775807) (r s : Nat) (hr : x % D.q = r) (hs : y % D.q = s) (hr1 : r < D.p ^ D.k) (hs1 : s < D.p ^ D.k) :
    Calls Try.prog 43 #[.pointer (some ⟨b, 0, none⟩), .int .i64 x, .int .i64 y] w (RB w (.int .i64 (FFld.pmul D.p D.k D.m r D.k s : Nat))) := by
  obtain ⟨h, T, xx, fs, fp, fw, ms, ml, hb, ho, _, _⟩ := hf.open
  obtain ⟨c0, _⟩ := six_cells hb
  have hP := Kept.mk (fun W (hW : Below w.heap.size w W) => ho.product W hW r s hr1 hs1)
  have hA := Kept.mk (fun W (hW : Below w.heap.size w W) => reduced_any x W (hf.below hW) hx0 hx1)
  have hB := Kept.mk (fun W (hW : Below w.heap.size w W) => reduced_any y W (hf.below hW) hy0 hy1)
  rw [hr] at hA
  rw [hs] at hB
  have hmp := ho.mp
  have hcp := ho.cp
  clear ho hb hf hx0 hx1 hy0 hy1 hr hs hr1 hs1
  go_enter Try.func43, Try.ntmps43
  go_wp2
  go_region_held3 (fun w' => w'.cell? ⟨b, 0, none⟩ = some (.iface T xx))
    (first | exact c0 | exact k0 | go_keep)
    ((first
      | ((with_reducible refine (hA.out _ ?_).mono ?_); (exact (by first | exact Below.refl _ _ | exact (Below.refl _ _).drew | exact (Below.refl _ _).drew.drew)); rintro e w2 ⟨rfl, rfl⟩)
      | ((with_reducible refine (hB.out _ ?_).mono ?_); (exact (by first | exact Below.refl _ _ | exact (Below.refl _ _).drew | exact (Below.refl _ _).drew.drew)); rintro e w2 ⟨rfl, rfl⟩)
      | ((with_reducible refine (hP.out _ ?_).mono ?_); (exact (by first | exact Below.refl _ _ | exact (Below.refl _ _).drew | exact (Below.refl _ _).drew.drew)); rintro e w2 ⟨hb2, rfl⟩; have HB2 := Kept.mk (show Below w.heap.size w w2 from (by first | exact hb2 | exact (Below.refl _ _).drew.trans hb2)); have k0 := belowCell HB2.out c0; clear hb2)))
  go_wp2
  go_ret
  exact ⟨HB2.out, rfl⟩
set_option maxRecDepth 20000 in
set_option maxHeartbeats 4000000 in
theorem fadd_any {D : FFld.FD} {b : Nat} (x y : Int) (w : World) (hf : FldB D w b) (hx0 : -9223372036854775808 ≤ x) (hx1 : x ≤ 9223372036854775807) (hy0 : -9223372036854775808 ≤ y) (hy1 : y ≤ 9223372036854775807) (r s : Nat) (hr : x % D.q = r) (hs : y % D.q = s) (hr1 : r < D.p ^ D.k) (hs1 : s < D.p ^ D.k) :
    Calls Try.prog 41 #[.pointer (some ⟨b, 0, none⟩), .int .i64 x, .int .i64 y] w (RB w (.int .i64 (FFld.padd D.p D.k r s : Nat))) := by
  obtain ⟨h, T, xx, fs, fp, fw, ms, ml, hb, ho, _, _⟩ := hf.open
  obtain ⟨c0, _⟩ := six_cells hb
  have hP := Kept.mk (fun W (hW : Below w.heap.size w W) => ho.sum W hW r s hr1 hs1)
  have hA := Kept.mk (fun W (hW : Below w.heap.size w W) => reduced_any x W (hf.below hW) hx0 hx1)
  have hB := Kept.mk (fun W (hW : Below w.heap.size w W) => reduced_any y W (hf.below hW) hy0 hy1)
  rw [hr] at hA
  rw [hs] at hB
  have hmp := ho.ms
  have hcp := ho.cs
  clear ho hb hf hx0 hx1 hy0 hy1 hr hs hr1 hs1
  go_enter Try.func41, Try.ntmps41
  go_wp2
  go_region_held3 (fun w' => w'.cell? ⟨b, 0, none⟩ = some (.iface T xx))
    (first | exact c0 | exact k0 | go_keep)
    ((first
      | ((with_reducible refine (hA.out _ ?_).mono ?_); (exact (by first | exact Below.refl _ _ | exact (Below.refl _ _).drew | exact (Below.refl _ _).drew.drew)); rintro e w2 ⟨rfl, rfl⟩)
      | ((with_reducible refine (hB.out _ ?_).mono ?_); (exact (by first | exact Below.refl _ _ | exact (Below.refl _ _).drew | exact (Below.refl _ _).drew.drew)); rintro e w2 ⟨rfl, rfl⟩)
      | ((with_reducible refine (hP.out _ ?_).mono ?_); (exact (by first | exact Below.refl _ _ | exact (Below.refl _ _).drew | exact (Below.refl _ _).drew.drew)); rintro e w2 ⟨hb2, rfl⟩; have HB2 := Kept.mk (show Below w.heap.size w w2 from (by first | exact hb2 | exact (Below.refl _ _).drew.trans hb2)); have k0 := belowCell HB2.out c0; clear hb2)))
  go_wp2
  go_ret
  exact ⟨HB2.out, rfl⟩
end Go.Proofs.Ytfhhnfpapgfnmaa

set_option linter.unusedVariables false
set_option linter.unusedSimpArgs false
namespace Go.Proofs.Ytfhhnfpapgfnmaa
open Go Go.RowKit
open FFld (ints)
set_option maxRecDepth 20000 in
set_option maxHeartbeats 2000000 in
theorem fsub_any {D : FFld.FD} {b : Nat} (x y : Int) (w : World) (hf : FldB D w b) (hx0 : -9223372036854775808 ≤ x) (hx1 : x ≤ 9223372036854775807) (hy0 : -9223372036854775808 ≤ y) (hy1 : y ≤ 9223372036854775807) (r s : Nat) (hr : x % D.q = r) (hs : y % D.q = s) (hr1 : r < D.p ^ D.k) (hs1 : s < D.p ^ D.k) :
    Calls Try.prog 42 #[.pointer (some ⟨b, 0, none⟩), .int .i64 x, .int .i64 y] w (RB w (.int .i64 (FFld.padd D.p D.k r (FFld.pscl D.p D.k (D.p - 1) s) : Nat))) := by
  have hP := Kept.mk (difference_any r s w hf hr1 hs1)
  have hA := Kept.mk (reduced_any x w hf hx0 hx1)
  have hB := Kept.mk (reduced_any y w hf hy0 hy1)
  rw [hr] at hA
  rw [hs] at hB
  clear hf hx0 hx1 hy0 hy1 hr hs hr1 hs1
  go_enter Try.func42, Try.ntmps42
  go_wp2_with fail
  refine hA.out.mono ?_
  rintro e w2 ⟨rfl, rfl⟩
  go_wp2_with fail
  refine hB.out.mono ?_
  rintro e w2 ⟨rfl, rfl⟩
  go_wp2_with fail
  refine hP.out.mono ?_
  rintro e w2 ⟨hb2, rfl⟩
  have HB2 := Kept.mk hb2
  clear hb2
  go_wp2
  go_ret
  exact ⟨HB2.out, rfl⟩
set_option maxRecDepth 20000 in
set_option maxHeartbeats 4000000 in
theorem fdiv_any {D : FFld.FD} {b : Nat} (hD : D.Ok) (x y : Int) (w : World) (hf : FldB D w b) (hx0 : -9223372036854775808 ≤ x) (hx1 : x ≤ 9223372036854775807) (hy0 : -9223372036854775808 ≤ y) (hy1 : y ≤ 9223372036854775807) (r s : Nat) (hr : x % D.q = r) (hs : y % D.q = s) (hr1 : r < D.p ^ D.k) (hs1 : s < D.p ^ D.k) (h0 : s ≠ 0) :
    Calls Try.prog 27 #[.pointer (some ⟨b, 0, none⟩), .int .i64 x, .int .i64 y] w (RB w (.tuple #[.int .i64 (FFld.pmul D.p D.k D.m r D.k (FFld.ppow hD.pre.pk s (D.q - 2)) : Nat), .int .i64 0])) := by
  obtain ⟨h, T, xx, fs, fp, fw, ms, ml, hb, ho, _, _⟩ := hf.open
  obtain ⟨c0, _⟩ := six_cells hb
  obtain ⟨v, hv⟩ : ∃ v, FFld.ppow hD.pre.pk s (D.q - 2) = v := ⟨_, rfl⟩
  have hv1 : v < D.p ^ D.k := by rw [← hv]; exact FFld.ppow_lt _ _ _
  have hP := Kept.mk (fun W (hW : Below w.heap.size w W) => ho.product W hW r v hr1 hv1)
  have hA := Kept.mk (fun W (hW : Below w.heap.size w W) => reduced_any x W (hf.below hW) hx0 hx1)
  have hB := Kept.mk (reduced_any y w hf hy0 hy1)
  have hI := Kept.mk (fun W (hW : Below w.heap.size w W) => inverse_any hD s W (hf.below hW) hs1 h0)
  rw [hr] at hA
  rw [hs] at hB
  rw [hv] at hI
  rw [hv]
  have hmp := ho.mp
  have hcp := ho.cp
  have es : ((s : Int) == 0) = false := by rw [beq_eq_false_iff_ne]; omega
  clear ho hb hf hx0 hx1 hy0 hy1 hr hs hr1 hs1 hv hv1
  go_enter Try.func27, Try.ntmps27
  go_wp2_with fail
  refine hB.out.mono ?_
  rintro e w2 ⟨rfl, rfl⟩
  go_wp2
  go_region_held3 (fun w' => w'.cell? ⟨b, 0, none⟩ = some (.iface T xx))
    (first | exact c0 | exact k0 | exact l0 | go_keep)
    ((first
      | ((with_reducible refine (hA.out _ ?_).mono ?_); (exact (by first | exact Below.refl _ _ | exact (Below.refl _ _).drew | exact HB2.out | exact HB2.out.drew)); rintro e w3 ⟨rfl, rfl⟩)
      | (go_at_call 90; (with_reducible refine (hI.out _ ?_).mono ?_); (exact (by first | exact Below.refl _ _ | exact (Below.refl _ _).drew)); rintro e w2 ⟨hb2, rfl⟩; have HB2 := Kept.mk (show Below w.heap.size w w2 from (by first | exact hb2 | exact (Below.refl _ _).drew.trans hb2)); have k0 := belowCell HB2.out c0; clear hb2)
      | ((with_reducible refine (hP.out _ ?_).mono ?_); (exact (by first | exact HB2.out | exact HB2.out.drew)); rintro e w4 ⟨hb4, rfl⟩; have HB4 := Kept.mk (bstep (show Below w.heap.size w _ from (by first | exact HB2.out | exact HB2.out.drew)) hb4); have l0 := belowCell HB4.out c0; clear hb4)))
  go_wp2
  go_ret2
  exact ⟨HB4.out, rfl⟩
set_option maxRecDepth 20000 in
set_option maxHeartbeats 2000000 in
theorem fdiv_zero {D : FFld.FD} {b : Nat} (x y : Int) (w : World) (hf : FldB D w b) (hy0 : -9223372036854775808 ≤ y) (hy1 : y ≤ 9223372036854775807) (hs : y % D.q = 0) :
    Calls Try.prog 27 #[.pointer (some ⟨b, 0, none⟩), .int .i64 x, .int .i64 y] w (fun e w' => w = w' ∧ e = .returned (.tuple #[.int .i64 0, .int .i64 6])) := by
  have hB := Kept.mk (reduced_any y w hf hy0 hy1)
  rw [hs] at hB
  go_enter Try.func27, Try.ntmps27
  go_wp2_with fail
  refine hB.out.mono ?_
  rintro e w2 ⟨rfl, rfl⟩
  go_wp2
  go_ret2
  exact ⟨rfl, rfl⟩
end Go.Proofs.Ytfhhnfpapgfnmaa

set_option linter.unusedVariables false
set_option linter.unusedSimpArgs false
namespace Go.Proofs.Ytfhhnfpapgfnmaa
open Go Go.RowKit
open FFld (ints)
set_option maxRecDepth 20000 in
set_option maxHeartbeats 2000000 in
theorem fpow_zero {D : FFld.FD} {b : Nat} (x : Int) (w : World) (hf : FldB D w b) (hx0 : -9223372036854775808 ≤ x) (hx1 : x ≤ 9223372036854775807) (r : Nat) (hr : x % D.q = r) :
    Calls Try.prog 28 #[.pointer (some ⟨b, 0, none⟩), .int .i64 x, .int .i64 0] w (fun e w' => w = w' ∧ e = .returned (.tuple #[.int .i64 1, .int .i64 0])) := by
  have hB := Kept.mk (reduced_any x w hf hx0 hx1)
  rw [hr] at hB
  clear hr
  go_enter Try.func28, Try.ntmps28
  go_wp2_with fail
  refine hB.out.mono ?_
  rintro e w2 ⟨rfl, rfl⟩
  go_wp2
  go_ret2
  exact ⟨rfl, rfl⟩
set_option maxRecDepth 20000 in
set_option maxHeartbeats 2000000 in
theorem fpow_none {D : FFld.FD} {b : Nat} (x n : Int) (w : World) (hf : FldB D w b) (hx0 : -9223372036854775808 ≤ x) (hx1 : x ≤ 9223372036854775807) (hr : x % D.q = 0) (hn : n ≠ 0) :
    Calls Try.prog 28 #[.pointer (some ⟨b, 0, none⟩), .int .i64 x, .int .i64 n] w (fun e w' => w = w' ∧ e = .returned (.tuple #[.int .i64 0, .int .i64 (if n < 0 then 6 else 0)])) := by
  have hB := Kept.mk (reduced_any x w hf hx0 hx1)
  rw [hr] at hB
  clear hr
  have en : (n == 0) = false := by rw [beq_eq_false_iff_ne]; exact hn
  by_cases h : n < 0
  · rw [if_pos h]
    have hd : decide (n < 0) = true := by simp [h]
    go_enter Try.func28, Try.ntmps28
    go_wp2_with fail
    refine hB.out.mono ?_
    rintro e w2 ⟨rfl, rfl⟩
    go_wp2
    go_ret2
    exact ⟨rfl, rfl⟩
  · rw [if_neg h]
    have hd : decide (n < 0) = false := by simp; omega
    go_enter Try.func28, Try.ntmps28
    go_wp2_with fail
    refine hB.out.mono ?_
    rintro e w2 ⟨rfl, rfl⟩
    go_wp2
    go_ret2
    exact ⟨rfl, rfl⟩
set_option maxRecDepth 20000 in
set_option maxHeartbeats 4000000 in
theorem fpow_any {D : FFld.FD} {b : Nat} (hD : D.Ok) (x n : Int) (w : World) (hf : FldB D w b) (hx0 : -9223372036854775808 ≤ x) (hx1 : x ≤ 9223372036854775807) (r : Nat) (hr : x % D.q = r) (hr1 : r < D.p ^ D.k) (h0 : r ≠ 0) (hn : n ≠ 0) (t : Nat) (ht : n % ((D.q : Int) - 1) = t) :
    Calls Try.prog 28 #[.pointer (some ⟨b, 0, none⟩), .int .i64 x, .int .i64 n] w (RB w (.tuple #[.int .i64 (FFld.ppow hD.pre.pk r t : Nat), .int .i64 0])) := by
  obtain ⟨h, T, xx, fs, fp, fw, ms, ml, hb, ho, _, _⟩ := hf.open
  obtain ⟨c0, c1, _⟩ := six_cells hb
  have hB := Kept.mk (reduced_any x w hf hx0 hx1)
  rw [hr] at hB
  obtain ⟨q, hq⟩ : ∃ q, D.q = q := ⟨_, rfl⟩
  have hq2 : 2 ≤ q := by
    have := hD.pre.pk.one_lt
    have e : D.q = D.p ^ D.k := rfl
    omega
  have hq6 : q ≤ 65536 := by have := hD.pre.small; omega
  rw [hq] at ht c1
  obtain ⟨q1, hq1⟩ : ∃ q1, q - 1 = q1 := ⟨_, rfl⟩
  have e0 : (q : Int) - 1 = q1 := by omega
  rw [e0] at ht
  obtain ⟨m, hm⟩ : ∃ m, n.tmod q1 = m := ⟨_, rfl⟩
  have htl : t < q1 := by
    have := Int.emod_lt_of_pos n (b := (q1 : Int)) (by omega)
    omega
  have hmt : (m < 0 ∧ m + q1 = t) ∨ (0 ≤ m ∧ m = t) := by
    have hdv : (q1 : Int) ∣ n - m := by rw [← hm]; exact ⟨n.tdiv q1, by have := Int.mul_tdiv_add_tmod n q1; omega⟩
    have ha : m < q1 ∧ -q1 < m := by
      rw [← hm]
      refine ⟨Int.tmod_lt_of_pos n (by omega), ?_⟩
      have h1 := Int.tmod_lt_of_pos (-n) (b := (q1 : Int)) (by omega)
      rw [Int.neg_tmod] at h1
      omega
    have hdt : (q1 : Int) ∣ n - t := by rw [← ht]; exact ⟨n / q1, by have := Int.mul_ediv_add_emod n q1; omega⟩
    obtain ⟨c, hc⟩ := (Int.dvd_sub hdt hdv)
    have hcc : m - t = q1 * c := by omega
    have h1 : -2 < c := by
      by_cases h : -2 < c
      · exact h
      · have := Int.mul_le_mul_of_nonneg_left (show c ≤ -2 by omega) (show (0 : Int) ≤ q1 by omega)
        omega
    have h2 : c < 1 := by
      by_cases h : c < 1
      · exact h
      · have := Int.mul_le_mul_of_nonneg_left (show 1 ≤ c by omega) (show (0 : Int) ≤ q1 by omega)
        omega
    have h3 : c = -1 ∨ c = 0 := by omega
    rcases h3 with rfl | rfl <;> omega
  have hP := Kept.mk (fun W (hW : Below w.heap.size w W) => ho.power W hW r t hr1 (.inl h0) (by omega))
  have hmw := ho.mw
  have hcw := ho.cw
  have er : ((r : Int) == 0) = false := by rw [beq_eq_false_iff_ne]; omega
  have en : (n == 0) = false := by rw [beq_eq_false_iff_ne]; exact hn
  have eq0 : ((q1 : Int) == 0) = false := by rw [beq_eq_false_iff_ne]; omega
  have hq1p : 1 ≤ q1 := by omega
  have hq16 : q1 ≤ 65536 := by omega
  clear ho hb hf hx0 hx1 hr hr1 ht hq hq1
  rcases hmt with ⟨hm0, hmt⟩ | ⟨hm0, hmt⟩
  · have hd : decide (m < 0) = true := by simp [hm0]
    have ew : wrap64 (m + q1) = t := by rw [hmt]; exact w64 (by omega) (by omega)
    go_enter Try.func28, Try.ntmps28
    go_wp2_with fail
    refine hB.out.mono ?_
    rintro e w2 ⟨rfl, rfl⟩
    go_wp2_with fail
    refine (hP.out _ (Below.refl _ _)).mono ?_
    rintro e w2 ⟨hb2, rfl⟩
    have HB2 := Kept.mk hb2
    clear hb2
    go_wp2
    go_ret2
    exact ⟨HB2.out, rfl⟩
  · subst hmt
    go_enter Try.func28, Try.ntmps28
    go_wp2_with fail
    refine hB.out.mono ?_
    rintro e w2 ⟨rfl, rfl⟩
    go_wp2_with fail
    refine (hP.out _ (Below.refl _ _)).mono ?_
    rintro e w2 ⟨hb2, rfl⟩
    have HB2 := Kept.mk hb2
    clear hb2
    go_wp2
    go_ret2
    exact ⟨HB2.out, rfl⟩
end Go.Proofs.Ytfhhnfpapgfnmaa
