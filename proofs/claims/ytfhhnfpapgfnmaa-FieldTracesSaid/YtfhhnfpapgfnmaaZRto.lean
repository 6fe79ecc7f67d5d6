/-
  Texts of the proof, merged by program: Rto.
-/
import Derived.Test.YtfhhnfpapgfnmaaZRtn
import Derived.Test.YtfhhnfpapgfnmaaZRtb3
import Derived.Test.YtfhhnfpapgfnmaaZRtc3
import Derived.Test.YtfhhnfpapgfnmaaZLma
set_option linter.unusedVariables false
set_option linter.unusedSimpArgs false
namespace Go.Proofs.Ytfhhnfpapgfnmaa
open Go Go.RowKit Go.Deep
open FFld (ints)
set_option maxRecDepth 20000 in
set_option maxHeartbeats 8000000 in
theorem fieldTraces_any (order x : Int) (w : World) (o0 : -9223372036854775808 ≤ order) (o1 : order ≤ 9223372036854775807) (x0 : -9223372036854775808 ≤ x) (x1 : x ≤ 9223372036854775807) :
    Calls Try.prog 6 #[.int .i64 order, .int .i64 x] w (RB w (.bool true)) := by
  go_enter Try.func6, Try.ntmps6
  go_wp2_with fail
  refine (some_any order 5000 w o0 o1 (by omega) (by omega)).mono ?_
  rintro e w1 ⟨hb1, D, b, hD, hle, hbl, hf, rfl⟩
  have HB1 := Kept.mk hb1
  have HF1 := Kept.mk hf
  have HD := Kept.mk hD
  have hq0 : D.q = D.p ^ D.k := rfl
  have hq6 := hD.pre.small
  have hq1 := hD.pre.pk.one_lt
  rw [← hq0] at hq1
  have hbx : Below w1.heap.size w1 (w1.alloc (rbox D.q D.p D.k D.m)) := (Below.refl _ _).alloc (Nat.le_refl _) _
  obtain ⟨i0, i1, i2, i3⟩ := four_cells (heap_alloc_new w1 (rbox D.q D.p D.k D.m))
  have HX := Kept.mk hbx
  have hns : w1.heap.size < (w1.alloc (rbox D.q D.p D.k D.m)).heap.size := by simp
  clear hb1 hf hD hbx hq0
  obtain ⟨a, hra, ha⟩ := red_nat HD.out x
  have hq6' : D.q ≤ 65536 := hq6
  have hq1' : 1 ≤ D.q := Nat.le_of_lt HD.out.pre.pk.one_lt
  have HF := Kept.mk (HF1.out.below HX.out)
  have HB := Kept.mk (bstep HB1.out HX.out)
  have hI := Kept.mk (fun W => rin_any D.q D.p D.k D.m x W hq1' hq6' x0 x1)
  rw [hra] at hI
  have ha6 := el_le HD.out ha
  obtain ⟨t, ht⟩ := MinT.exists HD.out.pre.pk a
  have HRT := Kept.mk (fun W (hf : FldB D W b) => froot_any x W hf x0 x1 a hra ha)
  have HT1 := Kept.mk (fun W (hf : FldB D W b) => trace_any HD.out x W hf x0 x1 a hra ha)
  have HT2 := Kept.mk (fun W => rtrace_any HD.out a W ha)
  have HN1 := Kept.mk (fun W (hf : FldB D W b) => norm_any HD.out x W hf x0 x1 a hra ha)
  have HN2 := Kept.mk (fun W => rnorm_any HD.out a W ha)
  have HM1 := Kept.mk (fun W (hf : FldB D W b) => fminimal_any HD.out x a t W hf x0 x1 hra ha ht)
  have HM2 := Kept.mk (fun W => rminimal_any HD.out a t W ha ht)
  have HRS := Kept.mk (fun W y hy => rroot_some HD.out a y W ha hy)
  have HRN := Kept.mk (fun W hy => rroot_none HD.out a W ha hy)
  have hlen : Kept ((ints (minF D HD.out.pre.pk a t)).length ≤ 1000000) := ⟨by
    have h6 : D.p ^ D.k ≤ 65536 := HD.out.pre.small
    have hk40 : D.k ≤ 40 := FFld.len_of_pow (Nat.pow_le_pow_left HD.out.pre.prime.1 _) (show D.p ^ D.k ≤ 1099511627776 by omega)
    have := ht.2.1
    rw [FFld.ints_len, minF_len]
    omega⟩
  obtain ⟨tr, htr⟩ : ∃ v, cjf HD.out.pre.pk a (fun t c => FFld.padd D.p D.k t c) 0 D.k = v := ⟨_, rfl⟩
  obtain ⟨nr, hnr⟩ : ∃ v, cjf HD.out.pre.pk a (fun t c => FFld.pmul D.p D.k D.m t D.k c) 1 D.k = v := ⟨_, rfl⟩
  obtain ⟨ml, hml⟩ : ∃ v, minF D HD.out.pre.pk a t = v := ⟨_, rfl⟩
  rw [htr] at HT1 HT2
  rw [hnr] at HN1 HN2
  rw [hml] at HM1 HM2 hlen
  clear htr hnr hml ht hra HF1 HB1 HX
  have etr : ((tr : Int) == (tr : Int)) = true := by simp
  have enr : ((nr : Int) == (nr : Int)) = true := by simp
  go_wp2_with fail
  refine (hI.out _).mono ?_
  rintro e w2 ⟨hb2, rfl⟩
  replace HF := Kept.mk (HF.out.below hb2)
  replace HB := Kept.mk (bstep HB.out hb2)
  replace i0 := belowCell hb2 i0
  replace i1 := belowCell hb2 i1
  replace i2 := belowCell hb2 i2
  replace i3 := belowCell hb2 i3
  clear hb2 hI
  go_wp2_with fail
  refine (HRT.out _ HF.out).mono ?_
  rintro e w3 ⟨hb3, hcase⟩
  replace HF := Kept.mk (HF.out.below hb3)
  replace HB := Kept.mk (bstep HB.out hb3)
  replace i0 := belowCell hb3 i0
  replace i1 := belowCell hb3 i1
  replace i2 := belowCell hb3 i2
  replace i3 := belowCell hb3 i3
  clear hb3 HRT
  obtain ⟨g8, hg8⟩ : ∃ g, w1.heap.size = g := ⟨_, rfl⟩
  rw [hg8] at i0 i1 i2 i3 ⊢
  clear hg8 hns
  rcases hcase with ⟨y, hy, rfl⟩ | ⟨hy, rfl⟩
  · have HY0 := Kept.mk hy
    have eyy : ((y : Int) == (y : Int)) = true := by simp
    clear hy
    go_wp2_with fail
    refine (HRS.out _ y HY0.out).mono ?_
    rintro e w4 ⟨hb4, rfl⟩
    replace HF := Kept.mk (HF.out.below hb4)
    replace HB := Kept.mk (bstep HB.out hb4)
    replace i0 := belowCell hb4 i0
    replace i1 := belowCell hb4 i1
    replace i2 := belowCell hb4 i2
    replace i3 := belowCell hb4 i3
    clear hb4 HRS HRN
    go_wp2
    go_region_held3 (fun w' => w'.cell? ⟨g8, 0, none⟩ = some (.int .i64 D.q) ∧ w'.cell? ⟨g8, 1, none⟩ = some (.int .i64 D.p) ∧ w'.cell? ⟨g8, 2, none⟩ = some (.int .i64 D.k) ∧ w'.cell? ⟨g8, 3, none⟩ = some (.int .i64 D.m))
      (first | exact ⟨r0, r1, r2, r3⟩ | exact ⟨q0, q1, q2, q3⟩ | exact ⟨p0, p1, p2, p3⟩ | exact ⟨n0, n1, n2, n3⟩ | exact ⟨m0, m1, m2, m3⟩ | exact ⟨l0, l1, l2, l3⟩ | exact ⟨k0, k1, k2, k3⟩ | exact ⟨j0, j1, j2, j3⟩ | exact ⟨i0, i1, i2, i3⟩ | go_keep)
      ((first
        | (go_at_call 44; (refine (HT1.out _ (HF.out.below (by first | exact Below.refl _ _ | exact (Below.refl _ _).drew))).mono ?_); rintro e v1 ⟨hb, rfl⟩; have HY1 := Kept.mk (bstep (show Below w4.heap.size w4 _ from (by first | exact Below.refl _ _ | exact (Below.refl _ _).drew)) hb); have j0 := belowCell HY1.out i0; have j1 := belowCell HY1.out i1; have j2 := belowCell HY1.out i2; have j3 := belowCell HY1.out i3; clear hb)
        | (go_at_call 59; (refine (HT2.out _).mono ?_); rintro e v2 ⟨hb, rfl⟩; have HY2 := Kept.mk (bstep (show Below w4.heap.size w4 _ from HY1.out) hb); have k0 := belowCell hb j0; have k1 := belowCell hb j1; have k2 := belowCell hb j2; have k3 := belowCell hb j3; clear hb)
        | (go_at_call 45; (refine (HN1.out _ (HF.out.below HY2.out)).mono ?_); rintro e v3 ⟨hb, rfl⟩; have HY3 := Kept.mk (bstep (show Below w4.heap.size w4 _ from HY2.out) hb); have l0 := belowCell hb k0; have l1 := belowCell hb k1; have l2 := belowCell hb k2; have l3 := belowCell hb k3; clear hb)
        | (go_at_call 60; (refine (HN2.out _).mono ?_); rintro e v4 ⟨hb, rfl⟩; have HY4 := Kept.mk (bstep (show Below w4.heap.size w4 _ from HY3.out) hb); have m0 := belowCell hb l0; have m1 := belowCell hb l1; have m2 := belowCell hb l2; have m3 := belowCell hb l3; clear hb)
        | (go_at_call 46; (refine (HM1.out _ (HF.out.below HY4.out)).mono ?_); rintro e v5 ⟨hb, vm, rfl, hs5⟩; have HY5 := Kept.mk (bstep (show Below w4.heap.size w4 _ from HY4.out) hb); have HS5 := Kept.mk hs5; clear hs5; have n0 := belowCell hb m0; have n1 := belowCell hb m1; have n2 := belowCell hb m2; have n3 := belowCell hb m3; clear hb)
        | (go_at_call 61; (refine (HM2.out _).mono ?_); rintro e v6 ⟨hb, vn, rfl, hs6⟩; have HY6 := Kept.mk (bstep (show Below w4.heap.size w4 _ from HY5.out) hb); have HSA := Kept.mk (HS5.out.below hb); have HSB := Kept.mk hs6; clear hs6; have p0 := belowCell hb n0; have p1 := belowCell hb n1; have p2 := belowCell hb n2; have p3 := belowCell hb n3; clear hb)
        | (go_at_call 22; (refine (same_eq _ _ (ints ml) _ HSA.out HSB.out hlen.out).mono ?_); rintro e v7 ⟨hb, rfl⟩; have HY7 := Kept.mk (bstep (show Below w4.heap.size w4 _ from HY6.out) hb); have q0 := belowCell hb p0; have q1 := belowCell hb p1; have q2 := belowCell hb p2; have q3 := belowCell hb p3; clear hb)
        | (go_at_call 49; (refine (awake_any _).mono ?_); rintro e v8 ⟨hb, rfl⟩; have HY8 := Kept.mk (bstep (show Below w4.heap.size w4 _ from HY7.out) hb); have r0 := belowCell hb q0; have r1 := belowCell hb q1; have r2 := belowCell hb q2; have r3 := belowCell hb q3; clear hb)))
    go_wp2
    go_ret
    exact ⟨bstep HB.out HY8.out, rfl⟩
  · have HY0 := Kept.mk hy
    clear hy
    go_wp2_with fail
    refine (HRN.out _ HY0.out).mono ?_
    rintro e w4 ⟨hb4, rfl⟩
    replace HF := Kept.mk (HF.out.below hb4)
    replace HB := Kept.mk (bstep HB.out hb4)
    replace i0 := belowCell hb4 i0
    replace i1 := belowCell hb4 i1
    replace i2 := belowCell hb4 i2
    replace i3 := belowCell hb4 i3
    clear hb4 HRS HRN
    go_wp2
    go_region_held3 (fun w' => w'.cell? ⟨g8, 0, none⟩ = some (.int .i64 D.q) ∧ w'.cell? ⟨g8, 1, none⟩ = some (.int .i64 D.p) ∧ w'.cell? ⟨g8, 2, none⟩ = some (.int .i64 D.k) ∧ w'.cell? ⟨g8, 3, none⟩ = some (.int .i64 D.m))
      (first | exact ⟨r0, r1, r2, r3⟩ | exact ⟨q0, q1, q2, q3⟩ | exact ⟨p0, p1, p2, p3⟩ | exact ⟨n0, n1, n2, n3⟩ | exact ⟨m0, m1, m2, m3⟩ | exact ⟨l0, l1, l2, l3⟩ | exact ⟨k0, k1, k2, k3⟩ | exact ⟨j0, j1, j2, j3⟩ | exact ⟨i0, i1, i2, i3⟩ | go_keep)
      ((first
        | (go_at_call 44; (refine (HT1.out _ (HF.out.below (by first | exact Below.refl _ _ | exact (Below.refl _ _).drew))).mono ?_); rintro e v1 ⟨hb, rfl⟩; have HY1 := Kept.mk (bstep (show Below w4.heap.size w4 _ from (by first | exact Below.refl _ _ | exact (Below.refl _ _).drew)) hb); have j0 := belowCell HY1.out i0; have j1 := belowCell HY1.out i1; have j2 := belowCell HY1.out i2; have j3 := belowCell HY1.out i3; clear hb)
        | (go_at_call 59; (refine (HT2.out _).mono ?_); rintro e v2 ⟨hb, rfl⟩; have HY2 := Kept.mk (bstep (show Below w4.heap.size w4 _ from HY1.out) hb); have k0 := belowCell hb j0; have k1 := belowCell hb j1; have k2 := belowCell hb j2; have k3 := belowCell hb j3; clear hb)
        | (go_at_call 45; (refine (HN1.out _ (HF.out.below HY2.out)).mono ?_); rintro e v3 ⟨hb, rfl⟩; have HY3 := Kept.mk (bstep (show Below w4.heap.size w4 _ from HY2.out) hb); have l0 := belowCell hb k0; have l1 := belowCell hb k1; have l2 := belowCell hb k2; have l3 := belowCell hb k3; clear hb)
        | (go_at_call 60; (refine (HN2.out _).mono ?_); rintro e v4 ⟨hb, rfl⟩; have HY4 := Kept.mk (bstep (show Below w4.heap.size w4 _ from HY3.out) hb); have m0 := belowCell hb l0; have m1 := belowCell hb l1; have m2 := belowCell hb l2; have m3 := belowCell hb l3; clear hb)
        | (go_at_call 46; (refine (HM1.out _ (HF.out.below HY4.out)).mono ?_); rintro e v5 ⟨hb, vm, rfl, hs5⟩; have HY5 := Kept.mk (bstep (show Below w4.heap.size w4 _ from HY4.out) hb); have HS5 := Kept.mk hs5; clear hs5; have n0 := belowCell hb m0; have n1 := belowCell hb m1; have n2 := belowCell hb m2; have n3 := belowCell hb m3; clear hb)
        | (go_at_call 61; (refine (HM2.out _).mono ?_); rintro e v6 ⟨hb, vn, rfl, hs6⟩; have HY6 := Kept.mk (bstep (show Below w4.heap.size w4 _ from HY5.out) hb); have HSA := Kept.mk (HS5.out.below hb); have HSB := Kept.mk hs6; clear hs6; have p0 := belowCell hb n0; have p1 := belowCell hb n1; have p2 := belowCell hb n2; have p3 := belowCell hb n3; clear hb)
        | (go_at_call 22; (refine (same_eq _ _ (ints ml) _ HSA.out HSB.out hlen.out).mono ?_); rintro e v7 ⟨hb, rfl⟩; have HY7 := Kept.mk (bstep (show Below w4.heap.size w4 _ from HY6.out) hb); have q0 := belowCell hb p0; have q1 := belowCell hb p1; have q2 := belowCell hb p2; have q3 := belowCell hb p3; clear hb)
        | (go_at_call 49; (refine (awake_any _).mono ?_); rintro e v8 ⟨hb, rfl⟩; have HY8 := Kept.mk (bstep (show Below w4.heap.size w4 _ from HY7.out) hb); have r0 := belowCell hb q0; have r1 := belowCell hb q1; have r2 := belowCell hb q2; have r3 := belowCell hb q3; clear hb)))
    go_wp2
    go_ret
    exact ⟨bstep HB.out HY8.out, rfl⟩
end Go.Proofs.Ytfhhnfpapgfnmaa
