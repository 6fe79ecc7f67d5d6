/-
  Texts of the proof, merged by program: Lca.
-/
import Derived.Test.YtfhhnfpapgfnmaaZ26
import Derived.Test.YtfhhnfpapgfnmaaZ18
set_option linter.unusedVariables false
set_option linter.unusedSimpArgs false
namespace Go.Proofs.Ytfhhnfpapgfnmaa
open Go Go.RowKit Go.Deep
open FFld (ints)
theorem md_ok {D : FFld.FD} (h : D.Ok) : MdOk D.p D.k D.m := ⟨h.pre.mod1, fun hk => ⟨(h.pre.mod2 hk).1, (h.pre.mod2 hk).2.1⟩⟩
theorem q_q {D : FFld.FD} (h : D.Ok) : D.p ^ D.k ≤ 65536 := h.pre.small
set_option maxRecDepth 20000 in
set_option maxHeartbeats 8000000 in
theorem fieldCalculates_any (order x y : Int) (w : World) (o0 : -9223372036854775808 ≤ order) (o1 : order ≤ 9223372036854775807) (x0 : -9223372036854775808 ≤ x) (x1 : x ≤ 9223372036854775807) (y0 : -9223372036854775808 ≤ y) (y1 : y ≤ 9223372036854775807) :
    Calls Try.prog 4 #[.int .i64 order, .int .i64 x, .int .i64 y] w (RB w (.bool true)) := by
  go_enter Try.func4, Try.ntmps4
  go_wp2_with fail
  refine (some_any order 65536 w o0 o1 (by omega) (by omega)).mono ?_
  rintro e w1 ⟨hb1, D, b, hD, hle, hbl, hf, rfl⟩
  have HB1 := Kept.mk hb1
  have HF1 := Kept.mk hf
  have HD := Kept.mk hD
  have hq0 : D.q = D.p ^ D.k := rfl
  have hq6 := hD.pre.small
  have hq1 := hD.pre.pk.one_lt
  rw [← hq0] at hq1
  have hbx : Below w1.heap.size w1 (w1.alloc (rbox D.q D.p D.k D.m)) := (Below.refl _ _).alloc (Nat.le_refl _) _
  obtain ⟨i0, i1, i2, i3⟩ := four_cells (heap_alloc_new w1 (rbox D.q D.p D.k D.m))
  have HX := Kept.mk hbx
  have hns : w1.heap.size < (w1.alloc (rbox D.q D.p D.k D.m)).heap.size := by simp
  clear hb1 hf hD hbx hq0
  obtain ⟨r, hr, hrq⟩ := red_nat HD.out x
  obtain ⟨s, hs, hsq⟩ := red_nat HD.out y
  have hq6' : D.q ≤ 65536 := hq6
  have hI1 := Kept.mk (fun W (hW : Below (w1.alloc (rbox D.q D.p D.k D.m)).heap.size (w1.alloc (rbox D.q D.p D.k D.m)) W) => rin_any D.q D.p D.k D.m x W (by omega) hq6' x0 x1)
  have hI2 := Kept.mk (fun W (hW : Below (w1.alloc (rbox D.q D.p D.k D.m)).heap.size (w1.alloc (rbox D.q D.p D.k D.m)) W) => rin_any D.q D.p D.k D.m y W (by omega) hq6' y0 y1)
  rw [hr] at hI1
  rw [hs] at hI2
  have HR := Kept.mk hr
  have HS := Kept.mk hs
  clear hr hs
  obtain ⟨g8, hg8⟩ : ∃ g, w1.heap.size = g := ⟨_, rfl⟩
  go_wp2_with fail
  obtain ⟨W0, hW0⟩ : ∃ W, w1.alloc (rbox D.q D.p D.k D.m) = W := ⟨_, rfl⟩
  rw [hW0] at i0 i1 i2 i3 HX hns hI1 hI2
  try rw [hW0]
  rw [hg8] at i0 i1 i2 i3
  try rw [hg8]
  clear hW0
  go_region_held3 (fun w' => w'.cell? ⟨g8, 0, none⟩ = some (.int .i64 D.q) ∧ w'.cell? ⟨g8, 1, none⟩ = some (.int .i64 D.p) ∧ w'.cell? ⟨g8, 2, none⟩ = some (.int .i64 D.k) ∧ w'.cell? ⟨g8, 3, none⟩ = some (.int .i64 D.m))
    (first | exact ⟨k0, k1, k2, k3⟩ | exact ⟨j0, j1, j2, j3⟩ | exact ⟨i0, i1, i2, i3⟩ | go_keep)
    ((first
      | (go_at_call 51; (with_reducible refine (hI1.out _ ?h1).mono ?_); (case h1 => exact (by first | exact Below.refl _ _ | exact (Below.refl _ _).drew)); rintro e v1 ⟨hb1, rfl⟩; have hy1 := Kept.mk (bstep (show Below W0.heap.size W0 _ from (by first | exact Below.refl _ _ | exact (Below.refl _ _).drew)) hb1); have j0 := belowCell hy1.out i0; have j1 := belowCell hy1.out i1; have j2 := belowCell hy1.out i2; have j3 := belowCell hy1.out i3; clear hb1)
      | (go_at_call 51; (with_reducible refine (hI2.out _ ?h1).mono ?_); (case h1 => exact hy1.out); rintro e v2 ⟨hb2, rfl⟩; have hy2 := Kept.mk (bstep (show Below W0.heap.size W0 _ from hy1.out) hb2); have k0 := belowCell hy2.out i0; have k1 := belowCell hy2.out i1; have k2 := belowCell hy2.out i2; have k3 := belowCell hy2.out i3; clear hb2)))
  have HF2 := Kept.mk ((HF1.out.below HX.out).below hy2.out)
  have HB2 := Kept.mk (bstep (bstep HB1.out HX.out) hy2.out)
  clear HF1 HX HB1 hI1 hI2 hy1 hy2 i0 i1 i2 i3 j0 j1 j2 j3
  have hpk := HD.out.pre.pk
  obtain ⟨a1, ha1⟩ : ∃ v, FFld.padd D.p D.k r s = v := ⟨_, rfl⟩
  obtain ⟨a2, ha2⟩ : ∃ v, FFld.padd D.p D.k r (FFld.pscl D.p D.k (D.p - 1) s) = v := ⟨_, rfl⟩
  obtain ⟨a3, ha3⟩ : ∃ v, FFld.pmul D.p D.k D.m r D.k s = v := ⟨_, rfl⟩
  have A1 := Kept.mk (fun W (hW : Below v2.heap.size v2 W) => fadd_any x y W (HF2.out.below hW) x0 x1 y0 y1 r s HR.out HS.out hrq hsq)
  have A2 := Kept.mk (fun W (hW : Below v2.heap.size v2 W) => radd_any D.q D.p D.k D.m r s W hpk.p2 hpk.k1 hrq hsq (q_q HD.out))
  have A3 := Kept.mk (fun W (hW : Below v2.heap.size v2 W) => fsub_any x y W (HF2.out.below hW) x0 x1 y0 y1 r s HR.out HS.out hrq hsq)
  have A4 := Kept.mk (fun W (hW : Below v2.heap.size v2 W) => rsub_any D.q D.p D.k D.m r s W hpk hrq hsq (q_q HD.out))
  have A5 := Kept.mk (fun W (hW : Below v2.heap.size v2 W) => fmul_any x y W (HF2.out.below hW) x0 x1 y0 y1 r s HR.out HS.out hrq hsq)
  have A6 := Kept.mk (fun W (hW : Below v2.heap.size v2 W) => rmul_any D.q D.p D.k D.m r s W hpk.p2 hpk.k1 hrq hsq (q_q HD.out) (md_ok HD.out))
  rw [ha1] at A1 A2
  rw [ha2] at A3 A4
  rw [ha3] at A5 A6
  clear ha1 ha2 ha3
  go_wp2
  go_region_held3 (fun w' => w'.cell? ⟨g8, 0, none⟩ = some (.int .i64 D.q) ∧ w'.cell? ⟨g8, 1, none⟩ = some (.int .i64 D.p) ∧ w'.cell? ⟨g8, 2, none⟩ = some (.int .i64 D.k) ∧ w'.cell? ⟨g8, 3, none⟩ = some (.int .i64 D.m))
    (first | exact ⟨r0, r1, r2, r3⟩ | exact ⟨q0, q1, q2, q3⟩ | exact ⟨p0, p1, p2, p3⟩ | exact ⟨n0, n1, n2, n3⟩ | exact ⟨m0, m1, m2, m3⟩ | exact ⟨l0, l1, l2, l3⟩ | exact ⟨k0, k1, k2, k3⟩ | go_keep)
    ((first
      | (go_at_call 41; (with_reducible refine (A1.out _ ?h1).mono ?_); (case h1 => exact (by first | exact Below.refl _ _ | exact (Below.refl _ _).drew)); rintro e vx1 ⟨hbx1, rfl⟩; have hyx1 := Kept.mk (bstep (show Below v2.heap.size v2 _ from (by first | exact Below.refl _ _ | exact (Below.refl _ _).drew)) hbx1); have l0 := belowCell hyx1.out k0; have l1 := belowCell hyx1.out k1; have l2 := belowCell hyx1.out k2; have l3 := belowCell hyx1.out k3; clear hbx1)
      | (go_at_call 52; (with_reducible refine (A2.out _ ?h1).mono ?_); (case h1 => exact hyx1.out); rintro e vx2 ⟨hbx2, rfl⟩; have hyx2 := Kept.mk (bstep (show Below v2.heap.size v2 _ from hyx1.out) hbx2); have m0 := belowCell hyx2.out k0; have m1 := belowCell hyx2.out k1; have m2 := belowCell hyx2.out k2; have m3 := belowCell hyx2.out k3; clear hbx2)
      | (go_at_call 42; (with_reducible refine (A3.out _ ?h1).mono ?_); (case h1 => exact hyx2.out); rintro e vx3 ⟨hbx3, rfl⟩; have hyx3 := Kept.mk (bstep (show Below v2.heap.size v2 _ from hyx2.out) hbx3); have n0 := belowCell hyx3.out k0; have n1 := belowCell hyx3.out k1; have n2 := belowCell hyx3.out k2; have n3 := belowCell hyx3.out k3; clear hbx3)
      | (go_at_call 53; (with_reducible refine (A4.out _ ?h1).mono ?_); (case h1 => exact hyx3.out); rintro e vx4 ⟨hbx4, rfl⟩; have hyx4 := Kept.mk (bstep (show Below v2.heap.size v2 _ from hyx3.out) hbx4); have p0 := belowCell hyx4.out k0; have p1 := belowCell hyx4.out k1; have p2 := belowCell hyx4.out k2; have p3 := belowCell hyx4.out k3; clear hbx4)
      | (go_at_call 43; (with_reducible refine (A5.out _ ?h1).mono ?_); (case h1 => exact hyx4.out); rintro e vx5 ⟨hbx5, rfl⟩; have hyx5 := Kept.mk (bstep (show Below v2.heap.size v2 _ from hyx4.out) hbx5); have q0 := belowCell hyx5.out k0; have q1 := belowCell hyx5.out k1; have q2 := belowCell hyx5.out k2; have q3 := belowCell hyx5.out k3; clear hbx5)
      | (go_at_call 54; (with_reducible refine (A6.out _ ?h1).mono ?_); (case h1 => exact hyx5.out); rintro e vx6 ⟨hbx6, rfl⟩; have hyx6 := Kept.mk (bstep (show Below v2.heap.size v2 _ from hyx5.out) hbx6); have r0 := belowCell hyx6.out k0; have r1 := belowCell hyx6.out k1; have r2 := belowCell hyx6.out k2; have r3 := belowCell hyx6.out k3; clear hbx6)))
  have HF3 := Kept.mk (HF2.out.below hyx6.out)
  have HB3 := Kept.mk (bstep HB2.out hyx6.out)
  clear A1 A2 A3 A4 A5 A6 HF2 HB2 hyx1 hyx2 hyx3 hyx4 hyx5 hyx6 k0 k1 k2 k3 l0 l1 l2 l3 m0 m1 m2 m3 n0 n1 n2 n3 p0 p1 p2 p3 q0 q1 q2 q3
  by_cases h0 : s = 0
  · subst h0
    have hDz := Kept.mk (fdiv_zero x y vx6 HF3.out y0 y1 HS.out)
    have e0 : (((0 : Nat) : Int) == 0) = true := rfl
    go_wp2_with fail
    refine hDz.out.mono ?_
    rintro e w5 ⟨rfl, rfl⟩
    go_wp2_with fail
    refine (awake_any _).mono ?_
    rintro e w6 ⟨hb6, rfl⟩
    have HB6 := Kept.mk (bstep HB3.out hb6)
    clear hb6
    go_wp2
    go_ret
    exact ⟨HB6.out, rfl⟩
  · have hDv := Kept.mk (fdiv_any HD.out x y vx6 HF3.out x0 x1 y0 y1 r s HR.out HS.out hrq hsq h0)
    have hDr := Kept.mk (fun W (hW : Below vx6.heap.size vx6 W) => rdiv_any D.q D.p D.k D.m r s W hpk hrq hsq rfl (q_q HD.out) (md_ok HD.out))
    obtain ⟨a4, ha4⟩ : ∃ v, FFld.pmul D.p D.k D.m r D.k (FFld.ppow hpk s (D.q - 2)) = v := ⟨_, rfl⟩
    rw [ha4] at hDv hDr
    have e0 : ((s : Int) == 0) = false := by rw [beq_eq_false_iff_ne]; omega
    clear ha4
    go_wp2_with fail
    refine hDv.out.mono ?_
    rintro e w5 ⟨hb5, rfl⟩
    have HB5 := Kept.mk hb5
    have u0 := belowCell hb5 r0
    have u1 := belowCell hb5 r1
    have u2 := belowCell hb5 r2
    have u3 := belowCell hb5 r3
    clear hb5 r0 r1 r2 r3
    go_wp2_with fail
    refine (hDr.out _ HB5.out).mono ?_
    rintro e w6 ⟨hb6, rfl⟩
    have HB6 := Kept.mk (bstep (bstep HB3.out HB5.out) hb6)
    clear hb6
    go_wp2_with fail
    refine (awake_any _).mono ?_
    rintro e w7 ⟨hb7, rfl⟩
    have HB7 := Kept.mk (bstep HB6.out hb7)
    clear hb7
    go_wp2
    go_ret
    exact ⟨HB7.out, rfl⟩
end Go.Proofs.Ytfhhnfpapgfnmaa
