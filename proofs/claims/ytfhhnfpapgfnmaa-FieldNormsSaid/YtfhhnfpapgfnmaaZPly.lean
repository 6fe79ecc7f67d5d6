/-
  Texts of the proof, merged by program: Ply.
-/
import Derived.Test.YtfhhnfpapgfnmaaZPfn
import Derived.Test.YtfhhnfpapgfnmaaZHor
import Derived.Test.YtfhhnfpapgfnmaaZRcm
import Derived.Test.YtfhhnfpapgfnmaaZScl
import Derived.Test.YtfhhnfpapgfnmaaZRtq
import Derived.Test.YtfhhnfpapgfnmaaZ25
import Derived.Test.YtfhhnfpapgfnmaaZLma
import Derived.Test.YtfhhnfpapgfnmaaZLca
import Derived.Test.YtfhhnfpapgfnmaaZOpl
set_option linter.unusedVariables false
set_option linter.unusedSimpArgs false
namespace Go.Proofs.Ytfhhnfpapgfnmaa
open Go Go.RowKit Go.Deep
open FFld (ints)
theorem mulL_le (D : FFld.FD) (pl ql : List Nat) : (FFld.mulL D pl ql).length ≤ pl.length + ql.length := by
  unfold FFld.mulL
  split
  · simp
  · rw [FFld.mulF_len]; omega
set_option maxRecDepth 20000 in
set_option maxHeartbeats 8000000 in
theorem fieldPolys_any (x y : Int) (vl : Value) (xs : List Int) (vm : Value) (ys : List Int) (w : World) (x0 : -9223372036854775808 ≤ x) (x1 : x ≤ 9223372036854775807) (y0 : -9223372036854775808 ≤ y) (y1 : y ≤ 9223372036854775807) (hl : Sl .i64 w vl xs) (hlb : I64s xs) (hm : Sl .i64 w vm ys) (hmb : I64s ys) :
    Calls Try.prog 8 #[.agg #[.int .i64 x, .int .i64 y], vl, vm] w (RB w (.bool true)) := by
  obtain ⟨al, cl, hvl, hcl, hml⟩ := hl.form
  obtain ⟨am, cm, hvm, hcm, hmm⟩ := hm.form
  subst hvl hvm
  have hbA : Below w.heap.size w (w.alloc (.cells #[.int .i64 x, .int .i64 y] 72)) := (Below.refl _ _).alloc (Nat.le_refl _) _
  obtain ⟨a0, a1, _⟩ := two_cells (heap_alloc_new w (.cells #[.int .i64 x, .int .i64 y] 72))
  have HBA := Kept.mk hbA
  have HL := Kept.mk hl
  have HM := Kept.mk hm
  have HLB := Kept.mk hlb
  have HMB := Kept.mk hmb
  clear hbA hl hm hlb hmb
  go_enter Try.func8, Try.ntmps8
  go_wp2_with fail
  refine (some_any x 2000 _ x0 x1 (by omega) (by omega)).mono ?_
  rintro e w1 ⟨hb1, D, b, hD, hle, hbl, hf, rfl⟩
  have HD := Kept.mk hD
  have hq0 : D.q = D.p ^ D.k := rfl
  have hq6 := hD.pre.small
  have hq1 := hD.pre.pk.one_lt
  rw [← hq0] at hq1
  have hbx : Below w1.heap.size w1 (w1.alloc (rbox D.q D.p D.k D.m)) := (Below.refl _ _).alloc (Nat.le_refl _) _
  obtain ⟨i0, i1, i2, i3⟩ := four_cells (heap_alloc_new w1 (rbox D.q D.p D.k D.m))
  have hns : w1.heap.size < (w1.alloc (rbox D.q D.p D.k D.m)).heap.size := by simp
  have HB := Kept.mk (bstep (bstep HBA.out hb1) hbx)
  have HF := Kept.mk (hf.below hbx)
  have HL1 := Kept.mk (HL.out.below HB.out)
  have HM1 := Kept.mk (HM.out.below HB.out)
  have HP1 : Kept (∀ W, Below (w1.alloc (rbox D.q D.p D.k D.m)).heap.size (w1.alloc (rbox D.q D.p D.k D.m)) W → Calls Try.prog 64 #[rfv D.q D.p D.k D.m, .slice al xs.length cl, .int .i64 12] W (fun e w' => Below W.heap.size W w' ∧ ∃ v, e = .returned v ∧ Sl .i64 w' v (ints (polF D xs 12)))) := Kept.mk (fun W hW => poly_any hD _ xs 12 W (HL1.out.below hW) HLB.out (by omega))
  have HP2 : Kept (∀ W, Below (w1.alloc (rbox D.q D.p D.k D.m)).heap.size (w1.alloc (rbox D.q D.p D.k D.m)) W → Calls Try.prog 64 #[rfv D.q D.p D.k D.m, .slice am ys.length cm, .int .i64 12] W (fun e w' => Below W.heap.size W w' ∧ ∃ v, e = .returned v ∧ Sl .i64 w' v (ints (polF D ys 12)))) := Kept.mk (fun W hW => poly_any hD _ ys 12 W (HM1.out.below hW) HMB.out (by omega))
  have hp12 := polF_len D xs 12
  have hq12 := polF_len D ys 12
  have HPT := Kept.mk (polF_tz D xs 12)
  have HQT := Kept.mk (polF_tz D ys 12)
  have HPL := Kept.mk (polF_lt hD xs 12)
  have HQL := Kept.mk (polF_lt hD ys 12)
  obtain ⟨pl, hpl⟩ : ∃ l, polF D xs 12 = l := ⟨_, rfl⟩
  obtain ⟨ql, hql⟩ : ∃ l, polF D ys 12 = l := ⟨_, rfl⟩
  rw [hpl] at HP1 hp12 HPT HPL
  rw [hql] at HP2 hq12 HQT HQL
  have HXR : Kept (y % (D.q : Int) = ((redN D y : Nat) : Int)) := ⟨(redN_int (by omega) y).symm⟩
  have HXQ : Kept (redN D y < D.p ^ D.k) := ⟨redN_lt (by omega) y⟩
  obtain ⟨r, hr⟩ : ∃ r, redN D y = r := ⟨_, rfl⟩
  rw [hr] at HXR HXQ
  clear hb1 hf hbx hq0 hpl hql hr HL HM HBA a0 hns
  have hI0 := i0
  go_wp2
  go_region_held3 (fun w' => w'.cell? ⟨w1.heap.size, 0, none⟩ = some (.int .i64 D.q) ∧ w'.cell? ⟨w1.heap.size, 1, none⟩ = some (.int .i64 D.p) ∧ w'.cell? ⟨w1.heap.size, 2, none⟩ = some (.int .i64 D.k) ∧ w'.cell? ⟨w1.heap.size, 3, none⟩ = some (.int .i64 D.m))
    (first | exact ⟨k0, k1, k2, k3⟩ | exact ⟨j0, j1, j2, j3⟩ | exact ⟨i0, i1, i2, i3⟩ | go_keep)
    ((first
      | (go_at_call 64; (with_reducible refine (HP1.out _ ?h1).mono ?_); (case h1 => exact (by first | exact Below.refl _ _ | exact (Below.refl _ _).drew)); rintro e v1 ⟨hb1, v5, rfl, hs5⟩; have hy1 := Kept.mk (bstep (show Below (w1.alloc (rbox D.q D.p D.k D.m)).heap.size (w1.alloc (rbox D.q D.p D.k D.m)) _ from (by first | exact Below.refl _ _ | exact (Below.refl _ _).drew)) hb1); have j0 := belowCell hy1.out i0; have j1 := belowCell hy1.out i1; have j2 := belowCell hy1.out i2; have j3 := belowCell hy1.out i3; have HS1 := Kept.mk hs5; clear hb1)
      | (go_at_call 64; (with_reducible refine (HP2.out _ ?h1).mono ?_); (case h1 => exact hy1.out); rintro e v2 ⟨hb2, v6, rfl, hs6⟩; have hy2 := Kept.mk (bstep (show Below (w1.alloc (rbox D.q D.p D.k D.m)).heap.size (w1.alloc (rbox D.q D.p D.k D.m)) _ from hy1.out) hb2); have k0 := belowCell hy2.out i0; have k1 := belowCell hy2.out i1; have k2 := belowCell hy2.out i2; have k3 := belowCell hy2.out i3; replace HS1 := Kept.mk (HS1.out.below (by exact hb2)); clear hb2)))
  have HBB := Kept.mk (bstep HB.out hy2.out)
  have HF2 := Kept.mk (HF.out.below hy2.out)
  have HSP := Kept.mk HS1.out
  have HSQ := Kept.mk hs6
  obtain ⟨ap, cp, rfl, hcp, hmp⟩ := hs5.form
  obtain ⟨aq, cq, rfl, hcq, hmq⟩ := hs6.form
  rw [FFld.ints_len] at hcp hcq HSP HSQ ⊢
  rw [FFld.ints_len]
  obtain ⟨np, hnp⟩ : ∃ n, pl.length = n := ⟨_, rfl⟩
  obtain ⟨nq, hnq⟩ : ∃ n, ql.length = n := ⟨_, rfl⟩
  have HNP := Kept.mk hnp
  have HNQ := Kept.mk hnq
  rw [hnp] at hcp HSP hp12 ⊢
  rw [hnq] at hcq HSQ hq12 ⊢
  clear HB HF i0 i1 i2 i3 j0 j1 j2 j3 hs5 hs6 HS1 HP1 HP2 hI0 hnp hnq HL1 HM1
  have i0 := k0
  have i1 := k1
  have i2 := k2
  have i3 := k3
  clear k0 k1 k2 k3 hy1 hy2
  have HCP := Kept.mk (cErr_poly HPL.out HPT.out (by rw [HNP.out]; omega))
  have HCQ := Kept.mk (cErr_poly HQL.out HQT.out (by rw [HNQ.out]; omega))
  have HOK : Kept (FFld.CmOk D 1000 (pl, ql)) := ⟨⟨HPL.out, HQL.out, HPT.out, HQT.out, by show pl.length ≤ 1000; rw [HNP.out]; omega, by show ql.length ≤ 1000; rw [HNQ.out]; omega⟩⟩
  have HV := Kept.mk (fun X (hF : FldB D X b) (hP : Sl .i64 X (.slice ap np cp) (ints pl)) => fvalue_any (.slice ap np cp) pl y r X hF hP HCP.out HPL.out y0 y1 HXR.out HXQ.out (by rw [HNP.out]; omega))
  have HPR := Kept.mk (fun X (hF : FldB D X b) (hP : Sl .i64 X (.slice ap np cp) (ints pl)) (hQ : Sl .i64 X (.slice aq nq cq) (ints ql)) => fpproduct_any _ _ pl ql X hF hP hQ HCP.out HCQ.out HD.out HPL.out HQL.out (by rw [HNP.out]; omega) (by rw [HNQ.out]; omega))
  have HCM := Kept.mk (fun X (hF : FldB D X b) (hP : Sl .i64 X (.slice ap np cp) (ints pl)) (hQ : Sl .i64 X (.slice aq nq cq) (ints ql)) => fcommon_any _ _ pl ql X hF hP hQ HCP.out HCQ.out HD.out HOK.out)
  have HRV := Kept.mk (fun X (hP : Sl .i64 X (.slice ap np cp) (ints pl)) => rvalue_any HD.out (.slice ap np cp) pl r X hP HPL.out HXQ.out (by rw [HNP.out]; omega))
  have HRP := Kept.mk (fun X (hP : Sl .i64 X (.slice ap np cp) (ints pl)) (hQ : Sl .i64 X (.slice aq nq cq) (ints ql)) => rproductp_any HD.out _ _ pl ql X hP hQ HPL.out HQL.out (by rw [HNP.out]; omega) (by rw [HNQ.out]; omega))
  have HRC := Kept.mk (fun X (hP : Sl .i64 X (.slice ap np cp) (ints pl)) (hQ : Sl .i64 X (.slice aq nq cq) (ints ql)) => rcommon_any HD.out _ _ pl ql X hP hQ HOK.out)
  have HRI := Kept.mk (fun X => rin_any D.q D.p D.k D.m y X (by omega) hq6 y0 y1)
  rw [HXR.out] at HRI
  have HDZ := Kept.mk (fun X (hF : FldB D X b) (hP : Sl .i64 X (.slice ap np cp) (ints pl)) (hQ : Sl .i64 X (.slice aq nq cq) (ints ql)) (h0 : nq = 0) => fpdivide_zero _ _ pl ql X hF hP hQ HCP.out HCQ.out (by rw [HNQ.out]; exact h0))
  have HDV := Kept.mk (fun X (hF : FldB D X b) (hP : Sl .i64 X (.slice ap np cp) (ints pl)) (hQ : Sl .i64 X (.slice aq nq cq) (ints ql)) (h0 : 0 < nq) => fpdivide_any _ _ pl ql X hF hP hQ HCP.out HCQ.out HD.out HPL.out HQL.out (by rw [HNQ.out]; exact h0) HQT.out (by rw [HNP.out]; omega) (by rw [HNQ.out]; omega))
  have HRD : Kept (∀ X, Sl .i64 X (.slice ap np cp) (ints pl) → Sl .i64 X (.slice aq nq cq) (ints ql) → 0 < nq → Calls Try.prog 68 #[rfv D.q D.p D.k D.m, .slice ap np cp, .slice aq nq cq] X (RdRet D ql (FFld.invT D HD.out.pre.pk ql) pl X)) := ⟨fun X hP hQ h0 => rpdivide_any HD.out _ _ pl ql X hP hQ HPL.out HQL.out (by rw [HNQ.out]; exact h0) (HQT.out.top (by rw [HNQ.out]; omega)) (by rw [HNP.out]; omega) (by rw [HNQ.out]; omega)⟩
  have HML : Kept ((ints (FFld.mulL D pl ql)).length ≤ 1000000) := ⟨by rw [FFld.ints_len]; have := mulL_le D pl ql; rw [HNP.out, HNQ.out] at this; omega⟩
  have HCE := Kept.mk (fun o1 o2 (h1 : FFld.CmnIs D HD.out.pre.pk pl ql o1) (h2 : FFld.CmnIs D HD.out.pre.pk pl ql o2) => h1.eq h2)
  have HCL := Kept.mk (fun o (h : FFld.CmnIs D HD.out.pre.pk pl ql o) => h.len HD.out HOK.out)
  have HQU : Kept ((ints (FFld.quoF D ql (FFld.invT D HD.out.pre.pk ql) pl)).length ≤ 1000000) := ⟨by rw [FFld.ints_len]; have := FFld.quoF_len D ql (FFld.invT D HD.out.pre.pk ql) pl; rw [HNP.out] at this; omega⟩
  have HRS : Kept (0 < nq → (ints (FFld.rstF D ql (FFld.invT D HD.out.pre.pk ql) pl)).length ≤ 1000000) := ⟨fun h0 => by rw [FFld.ints_len]; have := FFld.rst_short HD.out HQL.out HPL.out (by rw [HNQ.out]; exact h0) (HQT.out.top (by rw [HNQ.out]; omega)); rw [HNQ.out] at this; omega⟩
  obtain ⟨hv, hhv⟩ : ∃ h, FFld.hornF D pl r pl.length = h := ⟨_, rfl⟩
  rw [hhv] at HV HRV
  obtain ⟨ml, hml2⟩ : ∃ l, FFld.mulL D pl ql = l := ⟨_, rfl⟩
  rw [hml2] at HPR HRP HML
  obtain ⟨qu, hqu⟩ : ∃ l, FFld.quoF D ql (FFld.invT D HD.out.pre.pk ql) pl = l := ⟨_, rfl⟩
  rw [hqu] at HDV HQU
  obtain ⟨rs, hrs⟩ : ∃ l, FFld.rstF D ql (FFld.invT D HD.out.pre.pk ql) pl = l := ⟨_, rfl⟩
  rw [hrs] at HDV HRS
  have HQE := Kept.mk hqu
  have HRE := Kept.mk hrs
  clear hhv hml2 hqu hrs HCP HCQ hcp hcq hcl hcm
  go_wp2_with fail
  refine (HV.out _ HF2.out HSP.out).mono ?_
  rintro e w4 ⟨hb4, rfl⟩
  replace HF2 := Kept.mk (HF2.out.below hb4)
  replace HSP := Kept.mk (HSP.out.below hb4)
  replace HSQ := Kept.mk (HSQ.out.below hb4)
  replace HBB := Kept.mk (bstep HBB.out hb4)
  replace i0 := belowCell hb4 i0
  replace i1 := belowCell hb4 i1
  replace i2 := belowCell hb4 i2
  replace i3 := belowCell hb4 i3
  clear hb4 HV
  go_wp2_with fail
  refine (HPR.out _ HF2.out HSP.out HSQ.out).mono ?_
  rintro e w5 ⟨hb5, vs, rfl, hss⟩
  have HSS := Kept.mk hss
  replace HF2 := Kept.mk (HF2.out.below hb5)
  replace HSP := Kept.mk (HSP.out.below hb5)
  replace HSQ := Kept.mk (HSQ.out.below hb5)
  replace HBB := Kept.mk (bstep HBB.out hb5)
  replace i0 := belowCell hb5 i0
  replace i1 := belowCell hb5 i1
  replace i2 := belowCell hb5 i2
  replace i3 := belowCell hb5 i3
  clear hb5 HPR hss
  go_wp2_with fail
  refine (HCM.out _ HF2.out HSP.out HSQ.out).mono ?_
  rintro e w6 ⟨hb6, vc, o, rfl, hsc, hco⟩
  replace HSS := Kept.mk (HSS.out.below hb6)
  have HSC := Kept.mk hsc
  have HCO := Kept.mk hco
  replace HF2 := Kept.mk (HF2.out.below hb6)
  replace HSP := Kept.mk (HSP.out.below hb6)
  replace HSQ := Kept.mk (HSQ.out.below hb6)
  replace HBB := Kept.mk (bstep HBB.out hb6)
  replace i0 := belowCell hb6 i0
  replace i1 := belowCell hb6 i1
  replace i2 := belowCell hb6 i2
  replace i3 := belowCell hb6 i3
  clear hb6 HCM hsc hco
  have HI1 := Kept.mk (fun W (hW : Below w6.heap.size w6 W) => HRI.out W)
  have HV1 := Kept.mk (fun W (hW : Below w6.heap.size w6 W) => HRV.out W (HSP.out.below hW))
  have HP1 := Kept.mk (fun W (hW : Below w6.heap.size w6 W) => HRP.out W (HSP.out.below hW) (HSQ.out.below hW))
  have HC1 := Kept.mk (fun W (hW : Below w6.heap.size w6 W) => HRC.out W (HSP.out.below hW) (HSQ.out.below hW))
  have HS1 := Kept.mk (fun W v9 (hW : Below w6.heap.size w6 W) (h9 : Sl .i64 W v9 (ints ml)) => same_eq vs v9 (ints ml) W (HSS.out.below hW) h9 HML.out)
  have HOL : Kept ((ints o).length ≤ 1000000) := ⟨by rw [FFld.ints_len]; have := HCL.out o HCO.out; omega⟩
  have HS2 := Kept.mk (fun W v9 (hW : Below w6.heap.size w6 W) (h9 : Sl .i64 W v9 (ints o)) => same_eq vc v9 (ints o) W (HSC.out.below hW) h9 HOL.out)
  clear HRI HRV HRP HRC HCL
  go_wp2
  go_region_held3 (fun w' => w'.cell? ⟨w1.heap.size, 0, none⟩ = some (.int .i64 D.q) ∧ w'.cell? ⟨w1.heap.size, 1, none⟩ = some (.int .i64 D.p) ∧ w'.cell? ⟨w1.heap.size, 2, none⟩ = some (.int .i64 D.k) ∧ w'.cell? ⟨w1.heap.size, 3, none⟩ = some (.int .i64 D.m))
    (first | exact ⟨p0, p1, p2, p3⟩ | exact ⟨n0, n1, n2, n3⟩ | exact ⟨m0, m1, m2, m3⟩ | exact ⟨l0, l1, l2, l3⟩ | exact ⟨k0, k1, k2, k3⟩ | exact ⟨j0, j1, j2, j3⟩ | exact ⟨i0, i1, i2, i3⟩ | go_keep)
    ((first
      | (go_at_call 51; (with_reducible refine (HI1.out _ ?h1).mono ?_); (case h1 => exact (by first | exact Below.refl _ _ | exact (Below.refl _ _).drew)); rintro e v1 ⟨hb1, rfl⟩; have hy1 := Kept.mk (bstep (show Below w6.heap.size w6 _ from (by first | exact Below.refl _ _ | exact (Below.refl _ _).drew)) hb1); have j0 := belowCell hy1.out i0; have j1 := belowCell hy1.out i1; have j2 := belowCell hy1.out i2; have j3 := belowCell hy1.out i3; clear hb1)
      | (go_at_call 65; (with_reducible refine (HV1.out _ ?h1).mono ?_); (case h1 => exact hy1.out); rintro e v2 ⟨hb2, rfl⟩; have hy2 := Kept.mk (bstep (show Below w6.heap.size w6 _ from hy1.out) hb2); have k0 := belowCell hy2.out i0; have k1 := belowCell hy2.out i1; have k2 := belowCell hy2.out i2; have k3 := belowCell hy2.out i3; clear hb2)
      | (go_at_call 66; (with_reducible refine (HP1.out _ ?h1).mono ?_); (case h1 => exact hy2.out); rintro e v3 ⟨hb3, v9, rfl, hs9⟩; have hy3 := Kept.mk (bstep (show Below w6.heap.size w6 _ from hy2.out) hb3); have l0 := belowCell hy3.out i0; have l1 := belowCell hy3.out i1; have l2 := belowCell hy3.out i2; have l3 := belowCell hy3.out i3; have HS9 := Kept.mk hs9; clear hs9; clear hb3)
      | (go_at_call 22; (with_reducible refine (HS1.out _ v9 ?h1 HS9.out).mono ?_); (case h1 => exact hy3.out); rintro e v4 ⟨hb4, rfl⟩; have hy4 := Kept.mk (bstep (show Below w6.heap.size w6 _ from hy3.out) hb4); have m0 := belowCell hy4.out i0; have m1 := belowCell hy4.out i1; have m2 := belowCell hy4.out i2; have m3 := belowCell hy4.out i3; clear hb4)
      | (go_at_call 67; (with_reducible refine (HC1.out _ ?h1).mono ?_); (case h1 => exact hy4.out); rintro e v5 ⟨hb5, v10, o2, rfl, hs10, hc10⟩; have hy5 := Kept.mk (bstep (show Below w6.heap.size w6 _ from hy4.out) hb5); have n0 := belowCell hy5.out i0; have n1 := belowCell hy5.out i1; have n2 := belowCell hy5.out i2; have n3 := belowCell hy5.out i3; have HS10 : Kept (Sl .i64 v5 v10 (ints o)) := ⟨by rw [HCE.out o o2 HCO.out hc10]; exact hs10⟩; clear hs10 hc10; clear hb5)
      | (go_at_call 22; (with_reducible refine (HS2.out _ v10 ?h1 HS10.out).mono ?_); (case h1 => exact hy5.out); rintro e v6 ⟨hb6, rfl⟩; have hy6 := Kept.mk (bstep (show Below w6.heap.size w6 _ from hy5.out) hb6); have p0 := belowCell hy6.out i0; have p1 := belowCell hy6.out i1; have p2 := belowCell hy6.out i2; have p3 := belowCell hy6.out i3; clear hb6)))
  replace HF2 := Kept.mk (HF2.out.below hy6.out)
  replace HSP := Kept.mk (HSP.out.below hy6.out)
  replace HSQ := Kept.mk (HSQ.out.below hy6.out)
  replace HBB := Kept.mk (bstep HBB.out hy6.out)
  clear i0 i1 i2 i3 HI1 HV1 HP1 HC1 HS1 HS2 HSS HSC HCO HCE HS9 HS10 HOL
  by_cases hz : nq = 0
  · subst hz
    go_wp2_with fail
    refine (HDZ.out _ HF2.out HSP.out HSQ.out trivial).mono ?_
    rintro e w8 ⟨rfl, rfl⟩
    go_wp2_with fail
    refine (awake_any _).mono ?_
    rintro e w9 ⟨hb9, rfl⟩
    replace HBB := Kept.mk (bstep HBB.out hb9)
    clear hb9
    go_wp2
    go_ret
    exact ⟨HBB.out, rfl⟩
  · have e0 : ((nq : Int) == 0) = false := by rw [beq_eq_false_iff_ne]; omega
    have hz1 : 0 < nq := by omega
    go_wp2_with fail
    refine (HDV.out _ HF2.out HSP.out HSQ.out hz1).mono ?_
    rintro e w8 ⟨hb8, vx, vy, rfl, hsx, hsy⟩
    have HSX := Kept.mk hsx
    have HSY := Kept.mk hsy
    replace HSP := Kept.mk (HSP.out.below hb8)
    replace HSQ := Kept.mk (HSQ.out.below hb8)
    replace HBB := Kept.mk (bstep HBB.out hb8)
    have l0 := belowCell hb8 p0
    have l1 := belowCell hb8 p1
    have l2 := belowCell hb8 p2
    have l3 := belowCell hb8 p3
    clear hb8 hsx hsy HDV
    go_wp2_with fail
    refine (HRD.out _ HSP.out HSQ.out hz1).mono ?_
    rintro e w9 ⟨hb9, vu, vw, rfl, hsu, hsw⟩
    rw [HQE.out] at hsu
    rw [HRE.out] at hsw
    have HSU := Kept.mk hsu
    have HSW := Kept.mk hsw
    replace HSX := Kept.mk (HSX.out.below hb9)
    replace HSY := Kept.mk (HSY.out.below hb9)
    replace HBB := Kept.mk (bstep HBB.out hb9)
    clear hb9 hsu hsw HRD l0 l1 l2 l3
    go_wp2_with fail
    refine (same_eq _ _ _ _ HSX.out HSU.out HQU.out).mono ?_
    rintro e w10 ⟨hb10, rfl⟩
    replace HSY := Kept.mk (HSY.out.below hb10)
    replace HSW := Kept.mk (HSW.out.below hb10)
    replace HBB := Kept.mk (bstep HBB.out hb10)
    clear hb10
    go_wp2_with fail
    refine (same_eq _ _ _ _ HSY.out HSW.out (HRS.out hz1)).mono ?_
    rintro e w11 ⟨hb11, rfl⟩
    replace HBB := Kept.mk (bstep HBB.out hb11)
    clear hb11
    go_wp2_with fail
    refine (awake_any _).mono ?_
    rintro e w12 ⟨hb12, rfl⟩
    replace HBB := Kept.mk (bstep HBB.out hb12)
    clear hb12
    go_wp2
    go_ret
    exact ⟨HBB.out, rfl⟩
end Go.Proofs.Ytfhhnfpapgfnmaa
