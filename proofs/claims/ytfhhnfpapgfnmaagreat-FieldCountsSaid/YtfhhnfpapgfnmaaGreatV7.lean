/-
  Texts of the proof, merged by program: TIdiw TRat1 TRat2 TRat3 TRat4 TRat5 TRat6 TRat7 TRat8 TRmul TRadd TRops TCutz TPrat TPwm TPwx Ff.
-/
import Derived.Test.YtfhhnfpapgfnmaaGreatV6
import Derived.Defers
import Derived.Recover
import Derived.Test.YtfhhnfpapgfnmaaGreatV4
import Derived.Lib.IndexLaws
import Derived.Test.YtfhhnfpapgfnmaaGreatV5
set_option linter.unusedVariables false
set_option linter.unusedSimpArgs false
namespace Go.Proofs.YtfhhnfpapgfnmaaGreat
open Go Go.RowKit
/-- Four boxes of two cells behind the world's. -/
def Box4 (w : World) (sa sb : Bool) (ao bo : Option Addr) (ka ca kb cb : Nat) (W : World) : Prop :=
  W.heap[w.heap.size]? = some (.cells #[.bool sa, .slice ao ka ca] 24 (0, 0)) ∧ W.heap[w.heap.size + 1]? = some (.cells #[.bool sb, .slice bo kb cb] 24 (0, 0)) ∧
  W.heap[w.heap.size + 1 + 1]? = some (.cells #[.bool false, .slice none 0 0] 24 (0, 0)) ∧ W.heap[w.heap.size + 1 + 1 + 1]? = some (.cells #[.bool false, .slice none 0 0] 24 (0, 0)) ∧ Below w.heap.size w W
theorem box4 (w : World) (sa sb : Bool) (ao bo : Option Addr) (ka ca kb cb : Nat) : Box4 w sa sb ao bo ka ca kb cb ((((w.alloc (.cells #[.bool sa, .slice ao ka ca] 24)).alloc (.cells #[.bool sb, .slice bo kb cb] 24)).alloc (.cells #[.bool false, .slice none 0 0] 24)).alloc (.cells #[.bool false, .slice none 0 0] 24)) := by
  refine ⟨?_, ?_, ?_, ?_, ?_⟩
  · exact (heap_alloc_old _ _ (by simp; omega)).trans ((heap_alloc_old _ _ (by simp; omega)).trans ((heap_alloc_old _ _ (by simp)).trans (heap_alloc_new w _)))
  · exact (heap_alloc_old _ _ (by simp)).trans ((heap_alloc_old _ _ (by simp)).trans (theap_last _ _ _ (by simp)))
  · exact (heap_alloc_old _ _ (by simp)).trans (theap_last _ _ _ (by simp))
  · exact theap_last _ _ _ (by simp)
  · exact ((((Below.refl _ _).alloc (Nat.le_refl _) _).alloc (by simp) _).alloc (by simp; omega) _).alloc (by simp; omega) _
theorem Box4.size {w W : World} {sa sb : Bool} {ao bo : Option Addr} {ka ca kb cb : Nat} (h : Box4 w sa sb ao bo ka ca kb cb W) : w.heap.size + 1 + 1 + 1 < W.heap.size := (Array.getElem?_eq_some_iff.1 h.2.2.2.1).1
theorem Box4.below {w W W' : World} {sa sb : Bool} {ao bo : Option Addr} {ka ca kb cb : Nat} (h : Box4 w sa sb ao bo ka ca kb cb W) (hb : Below W.heap.size W W') : Box4 w sa sb ao bo ka ca kb cb W' := by
  have hs := h.size
  obtain ⟨h0, h1, h2, h3, h4⟩ := h
  exact ⟨(hb.block _ (by omega)).trans h0, (hb.block _ (by omega)).trans h1, (hb.block _ (by omega)).trans h2, (hb.block _ (by omega)).trans h3, h4.trans (hb.mono (by omega))⟩
theorem Box4.ins {w W : World} {sa sb : Bool} {ao bo : Option Addr} {ka ca kb cb : Nat} (h : Box4 w sa sb ao bo ka ca kb cb W) :
    W.cell? ⟨w.heap.size, 0, none⟩ = some (.bool sa) ∧ W.cell? ⟨w.heap.size, 1, none⟩ = some (.slice ao ka ca) ∧ W.cell? ⟨w.heap.size + 1, 0, none⟩ = some (.bool sb) ∧ W.cell? ⟨w.heap.size + 1, 1, none⟩ = some (.slice bo kb cb) :=
  ⟨(ttwo_cells h.1).1, (ttwo_cells h.1).2.1, (ttwo_cells h.2.1).1, (ttwo_cells h.2.1).2.1⟩
theorem Box4.outs {w W : World} {sa sb : Bool} {ao bo : Option Addr} {ka ca kb cb : Nat} (h : Box4 w sa sb ao bo ka ca kb cb W) :
    W.frozen? ⟨w.heap.size + 1 + 1, 0, none⟩ = false ∧ W.frozen? ⟨w.heap.size + 1 + 1, 1, none⟩ = false ∧ W.frozen? ⟨w.heap.size + 1 + 1 + 1, 0, none⟩ = false ∧ W.frozen? ⟨w.heap.size + 1 + 1 + 1, 1, none⟩ = false ∧
    W.cell? ⟨w.heap.size + 1 + 1, 0, none⟩ = some (.bool false) ∧ W.cell? ⟨w.heap.size + 1 + 1, 1, none⟩ = some (.slice none 0 0) ∧ W.cell? ⟨w.heap.size + 1 + 1 + 1, 0, none⟩ = some (.bool false) ∧ W.cell? ⟨w.heap.size + 1 + 1 + 1, 1, none⟩ = some (.slice none 0 0) :=
  ⟨(ttwo_cells h.2.2.1).2.2.1, (ttwo_cells h.2.2.1).2.2.2, (ttwo_cells h.2.2.2.1).2.2.1, (ttwo_cells h.2.2.2.1).2.2.2, (ttwo_cells h.2.2.1).1, (ttwo_cells h.2.2.1).2.1, (ttwo_cells h.2.2.2.1).1, (ttwo_cells h.2.2.2.1).2.1⟩

set_option maxRecDepth 20000 in
set_option maxHeartbeats 1000000 in
theorem idiv_up {La Lb : Nat} {va vb : Value} {z y : Int} {w : World} (ha : IntV La w va z) (hb : IntV Lb w vb y) (hy : y ≠ 0) (hz : 0 ≤ z) (h1 : La ≤ 268435455) (h2 : Lb ≤ 268435455) :
    Calls Tryz.prog 21 #[va, vb] w (IdRet (max La Lb + 2) w z y) := by
  obtain ⟨LL, hLL⟩ : ∃ LL, LL = max La Lb + 2 := ⟨_, rfl⟩
  rw [← hLL]
  have hb' := hb
  obtain ⟨sa, ua, rfl, hsa, hna⟩ := ha
  obtain ⟨sb, ub, rfl, hsb, hnb⟩ := hb
  obtain ⟨ao, ka, ca, rfl⟩ := hna.form
  obtain ⟨bo, kb, cb, rfl⟩ := hnb.form
  have HBX := Lib.hid (box4 w sa sb ao bo ka ca kb cb)
  have HNA := Lib.hid (hna.below HBX.out.2.2.2.2)
  have HNB := Lib.hid (hnb.below HBX.out.2.2.2.2)
  have HBI := Lib.hid (hb'.below HBX.out.2.2.2.2)
  obtain ⟨sg, hsg0, hsg⟩ : ∃ sg : Int, (sg == 0) = false ∧ Dg.sg y 0 = sg := by
    refine ⟨_, ?_, rfl⟩
    rcases Int.lt_trichotomy y 0 with h | h | h
    · rw [Dg.sg_lt h]; rfl
    · exact absurd h hy
    · rw [Dg.sg_gt h]; rfl
  have hsi := sign_any HBI.out
  rw [hsg] at hsi
  have HSI := Lib.hid hsi
  have hd := div_pos hz hy
  have e : sa = false := by rw [hsa]; simp; omega
  subst e
  rw [← hsa, ← hsb, show (false != sb) = sb by cases sb <;> rfl] at hd
  have HD := Lib.hid hd
  have HY := Lib.hid hy
  have HSB := Lib.hid hsb
  clear hna hnb hb' hsg hsi hsb hy hd hsa
  go_enter Tryz.func21, Tryz.ntmps21
  go_wp2_with fail
  refine HSI.out.mono ?_
  rintro e w1 ⟨hb1, rfl⟩
  have HX1 := Lib.hid (HBX.out.below hb1)
  have HNA1 := Lib.hid (HNA.out.below hb1)
  have HNB1 := Lib.hid (HNB.out.below hb1)
  obtain ⟨ka0, ka1, ka2, ka3⟩ := HX1.out.ins
  clear hb1
  go_wp2_with fail
  refine (divide_num HNA1.out HNB1.out (by have := HY.out; omega) (by omega)).mono ?_
  rintro e w2 ⟨hb2, q, r, rfl, hq2, hr2, hfq, hfr⟩
  obtain ⟨qo, kq, cq, rfl⟩ := hq2.form
  obtain ⟨ro, kr, cr, rfl, hkr, _⟩ := hr2.form2
  have HX2 := Lib.hid (HX1.out.below hb2)
  have HNB2 := Lib.hid (HNB1.out.below hb2)
  have HQ2 := Lib.hid hq2
  have HR2 := Lib.hid hr2
  clear hb2 hq2 hr2 hfq hfr hkr ka0 ka1 ka2 ka3
  obtain ⟨kb0, kb1, kb2, kb3⟩ := HX2.out.ins

  go_wp2_with fail
  refine (signed_any (sb) HQ2.out).mono ?_
  rintro e w5 ⟨hb5, v5, rfl, s5, u5, rfl, hs5, hn5⟩
  obtain ⟨ao5, k5, c5, rfl⟩ := hn5.form
  have HX5 := Lib.hid (HX2.out.below hb5)
  have HR5 := Lib.hid (HR2.out.below hb5)
  have HS5 := Lib.hid hs5
  have HN5 := Lib.hid hn5
  clear hb5 hs5 hn5
  go_wp2_with fail
  refine (signed_any false HR5.out).mono ?_
  rintro e w6 ⟨hb6, v6, rfl, s6, u6, rfl, hs6, hn6⟩
  obtain ⟨ao6, k6, c6, rfl⟩ := hn6.form
  have HX6 := Lib.hid (HX5.out.below hb6)
  obtain ⟨f0, f1, f2, f3, g0, g1, g2, g3⟩ := HX6.out.outs
  have hz6 := HX6.out.size
  have HE := Lib.hid (fun W' => int_end2 (L := LL) (L' := LL) (z := z / y) (z' := z % y) (w := w) (s := s5) (ao := ao5) (k := k5) (c := c5) (s' := s6) (ao' := ao6) (k' := k6) (c' := c6) HX6.out.2.2.1 HX6.out.2.2.2.1 (by omega) HX6.out.2.2.2.2 (by omega) (by omega)
    (by rw [HS5.out, HD.out.1]) (by have := HN5.out.below hb6; rw [HD.out.1] at this; exact this.mono (L' := LL) (by omega))
    (by rw [hs6]; show decide (sgn false _ < 0) = _; rw [HD.out.2]; rfl) (by have := hn6; rw [HD.out.2] at this; exact this.mono (L' := LL) (by omega)) W')
  clear hb6 hs6 hn6 kb0 kb1 kb2 kb3
  go_wp2
  have hE := HE.out _ rfl
  exact bodyPost_ret (v := .tuple #[.agg #[.bool s5, .slice ao5 k5 c5], .agg #[.bool s6, .slice ao6 k6 c6], .int .i64 0]) (by simp [results, Tryz.results21, go_sem, hE.2.2.2.1, hE.2.2.2.2.1, hE.2.2.2.2.2.1, hE.2.2.2.2.2.2]) rfl ⟨hE.1, _, _, rfl, hE.2.1, hE.2.2.1⟩

set_option maxRecDepth 20000 in
set_option maxHeartbeats 1000000 in
theorem idiv_flat {La Lb : Nat} {va vb : Value} {z y : Int} {w : World} (ha : IntV La w va z) (hb : IntV Lb w vb y) (hy : y ≠ 0) (hz : z < 0) (hr : (z.natAbs % y.natAbs : Int) = 0) (h1 : La ≤ 268435455) (h2 : Lb ≤ 268435455) :
    Calls Tryz.prog 21 #[va, vb] w (IdRet (max La Lb + 2) w z y) := by
  obtain ⟨LL, hLL⟩ : ∃ LL, LL = max La Lb + 2 := ⟨_, rfl⟩
  rw [← hLL]
  have hb' := hb
  obtain ⟨sa, ua, rfl, hsa, hna⟩ := ha
  obtain ⟨sb, ub, rfl, hsb, hnb⟩ := hb
  obtain ⟨ao, ka, ca, rfl⟩ := hna.form
  obtain ⟨bo, kb, cb, rfl⟩ := hnb.form
  have HBX := Lib.hid (box4 w sa sb ao bo ka ca kb cb)
  have HNA := Lib.hid (hna.below HBX.out.2.2.2.2)
  have HNB := Lib.hid (hnb.below HBX.out.2.2.2.2)
  have HBI := Lib.hid (hb'.below HBX.out.2.2.2.2)
  obtain ⟨sg, hsg0, hsg⟩ : ∃ sg : Int, (sg == 0) = false ∧ Dg.sg y 0 = sg := by
    refine ⟨_, ?_, rfl⟩
    rcases Int.lt_trichotomy y 0 with h | h | h
    · rw [Dg.sg_lt h]; rfl
    · exact absurd h hy
    · rw [Dg.sg_gt h]; rfl
  have hsi := sign_any HBI.out
  rw [hsg] at hsi
  have HSI := Lib.hid hsi
  have hd := (show _ ∧ _ from ⟨(div_neg0 hz hy hr).1, hr.trans (div_neg0 hz hy hr).2⟩)
  have e : sa = true := by rw [hsa]; simpa using hz
  subst e
  rw [← hsa, ← hsb, show (true != sb) = !sb by cases sb <;> rfl] at hd
  have HD := Lib.hid hd
  have HY := Lib.hid hy
  have HSB := Lib.hid hsb
  clear hna hnb hb' hsg hsi hsb hy hd hsa
  go_enter Tryz.func21, Tryz.ntmps21
  go_wp2_with fail
  refine HSI.out.mono ?_
  rintro e w1 ⟨hb1, rfl⟩
  have HX1 := Lib.hid (HBX.out.below hb1)
  have HNA1 := Lib.hid (HNA.out.below hb1)
  have HNB1 := Lib.hid (HNB.out.below hb1)
  obtain ⟨ka0, ka1, ka2, ka3⟩ := HX1.out.ins
  clear hb1
  go_wp2_with fail
  refine (divide_num HNA1.out HNB1.out (by have := HY.out; omega) (by omega)).mono ?_
  rintro e w2 ⟨hb2, q, r, rfl, hq2, hr2, hfq, hfr⟩
  obtain ⟨qo, kq, cq, rfl⟩ := hq2.form
  obtain ⟨ro, kr, cr, rfl, hkr, _⟩ := hr2.form2
  have HX2 := Lib.hid (HX1.out.below hb2)
  have HNB2 := Lib.hid (HNB1.out.below hb2)
  have HQ2 := Lib.hid hq2
  have HR2 := Lib.hid hr2
  obtain rfl : kr = 0 := hkr.2 hr
  clear hb2 hq2 hr2 hfq hfr hkr ka0 ka1 ka2 ka3
  obtain ⟨kb0, kb1, kb2, kb3⟩ := HX2.out.ins

  go_wp2_with fail
  refine (signed_any (!sb) HQ2.out).mono ?_
  rintro e w5 ⟨hb5, v5, rfl, s5, u5, rfl, hs5, hn5⟩
  obtain ⟨ao5, k5, c5, rfl⟩ := hn5.form
  have HX5 := Lib.hid (HX2.out.below hb5)
  have HR5 := Lib.hid (HR2.out.below hb5)
  have HS5 := Lib.hid hs5
  have HN5 := Lib.hid hn5
  clear hb5 hs5 hn5
  go_wp2_with fail
  refine (signed_any false HR5.out).mono ?_
  rintro e w6 ⟨hb6, v6, rfl, s6, u6, rfl, hs6, hn6⟩
  obtain ⟨ao6, k6, c6, rfl⟩ := hn6.form
  have HX6 := Lib.hid (HX5.out.below hb6)
  obtain ⟨f0, f1, f2, f3, g0, g1, g2, g3⟩ := HX6.out.outs
  have hz6 := HX6.out.size
  have HE := Lib.hid (fun W' => int_end2 (L := LL) (L' := LL) (z := z / y) (z' := z % y) (w := w) (s := s5) (ao := ao5) (k := k5) (c := c5) (s' := s6) (ao' := ao6) (k' := k6) (c' := c6) HX6.out.2.2.1 HX6.out.2.2.2.1 (by omega) HX6.out.2.2.2.2 (by omega) (by omega)
    (by rw [HS5.out, HD.out.1]) (by have := HN5.out.below hb6; rw [HD.out.1] at this; exact this.mono (L' := LL) (by omega))
    (by rw [hs6]; show decide (sgn false _ < 0) = _; rw [HD.out.2]; rfl) (by have := hn6; rw [HD.out.2] at this; exact this.mono (L' := LL) (by omega)) W')
  clear hb6 hs6 hn6 kb0 kb1 kb2 kb3
  go_wp2
  have hE := HE.out _ rfl
  exact bodyPost_ret (v := .tuple #[.agg #[.bool s5, .slice ao5 k5 c5], .agg #[.bool s6, .slice ao6 k6 c6], .int .i64 0]) (by simp [results, Tryz.results21, go_sem, hE.2.2.2.1, hE.2.2.2.2.1, hE.2.2.2.2.2.1, hE.2.2.2.2.2.2]) rfl ⟨hE.1, _, _, rfl, hE.2.1, hE.2.2.1⟩

set_option maxRecDepth 20000 in
set_option maxHeartbeats 1000000 in
theorem idiv_down {La Lb : Nat} {va vb : Value} {z y : Int} {w : World} (ha : IntV La w va z) (hb : IntV Lb w vb y) (hy : y ≠ 0) (hz : z < 0) (hr : (z.natAbs % y.natAbs : Int) ≠ 0) (h1 : La ≤ 268435455) (h2 : Lb ≤ 268435455) :
    Calls Tryz.prog 21 #[va, vb] w (IdRet (max La Lb + 2) w z y) := by
  obtain ⟨LL, hLL⟩ : ∃ LL, LL = max La Lb + 2 := ⟨_, rfl⟩
  rw [← hLL]
  have hb' := hb
  obtain ⟨sa, ua, rfl, hsa, hna⟩ := ha
  obtain ⟨sb, ub, rfl, hsb, hnb⟩ := hb
  obtain ⟨ao, ka, ca, rfl⟩ := hna.form
  obtain ⟨bo, kb, cb, rfl⟩ := hnb.form
  have HBX := Lib.hid (box4 w sa sb ao bo ka ca kb cb)
  have HNA := Lib.hid (hna.below HBX.out.2.2.2.2)
  have HNB := Lib.hid (hnb.below HBX.out.2.2.2.2)
  have HBI := Lib.hid (hb'.below HBX.out.2.2.2.2)
  obtain ⟨sg, hsg0, hsg⟩ : ∃ sg : Int, (sg == 0) = false ∧ Dg.sg y 0 = sg := by
    refine ⟨_, ?_, rfl⟩
    rcases Int.lt_trichotomy y 0 with h | h | h
    · rw [Dg.sg_lt h]; rfl
    · exact absurd h hy
    · rw [Dg.sg_gt h]; rfl
  have hsi := sign_any HBI.out
  rw [hsg] at hsi
  have HSI := Lib.hid hsi
  have hd := div_neg1 hz hy hr
  have e : sa = true := by rw [hsa]; simpa using hz
  subst e
  rw [← hsa, ← hsb, show (true != sb) = !sb by cases sb <;> rfl] at hd
  have HD := Lib.hid hd
  have HY := Lib.hid hy
  have HSB := Lib.hid hsb
  clear hna hnb hb' hsg hsi hsb hy hd hsa
  go_enter Tryz.func21, Tryz.ntmps21
  go_wp2_with fail
  refine HSI.out.mono ?_
  rintro e w1 ⟨hb1, rfl⟩
  have HX1 := Lib.hid (HBX.out.below hb1)
  have HNA1 := Lib.hid (HNA.out.below hb1)
  have HNB1 := Lib.hid (HNB.out.below hb1)
  obtain ⟨ka0, ka1, ka2, ka3⟩ := HX1.out.ins
  clear hb1
  go_wp2_with fail
  refine (divide_num HNA1.out HNB1.out (by have := HY.out; omega) (by omega)).mono ?_
  rintro e w2 ⟨hb2, q, r, rfl, hq2, hr2, hfq, hfr⟩
  obtain ⟨qo, kq, cq, rfl⟩ := hq2.form
  obtain ⟨ro, kr, cr, rfl, hkr, _⟩ := hr2.form2
  have HX2 := Lib.hid (HX1.out.below hb2)
  have HNB2 := Lib.hid (HNB1.out.below hb2)
  have HQ2 := Lib.hid hq2
  have HR2 := Lib.hid hr2
  have hk0 : 0 < kr := by
    apply Nat.pos_of_ne_zero
    intro hc
    exact hr (hkr.1 hc)
  clear hb2 hq2 hr2 hfq hfr hkr ka0 ka1 ka2 ka3
  obtain ⟨kb0, kb1, kb2, kb3⟩ := HX2.out.ins

  go_wp2_with fail
  refine (oneWord_any 1 _ (by omega) (by omega)).mono ?_
  rintro e w3 ⟨hb3, v3, rfl, hn3, hf3⟩
  have HN3 := Lib.hid hn3
  have HX3 := Lib.hid (HX2.out.below hb3)
  have HQ3 := Lib.hid (HQ2.out.below hb3)
  have HR3 := Lib.hid (HR2.out.below hb3)
  have HNB3 := Lib.hid (HNB2.out.below hb3)
  clear hb3 hn3 hf3 kb0 kb1 kb2 kb3
  go_wp2_with fail
  refine (sum_num HQ3.out HN3.out (by omega) (by omega)).mono ?_
  rintro e w4 ⟨hb4, v4, rfl, hn4, hf4⟩
  have HQ4 := Lib.hid hn4
  have HX4 := Lib.hid (HX3.out.below hb4)
  have HR4 := Lib.hid (HR3.out.below hb4)
  have HNB4 := Lib.hid (HNB3.out.below hb4)
  clear hb4 hn4 hf4
  obtain ⟨kb0, kb1, kb2, kb3⟩ := HX4.out.ins
  go_wp2_with fail
  refine (difference_num HNB4.out HR4.out (by omega) (Int.le_of_lt (Int.emod_lt_of_pos _ (by have := HY.out; omega)))).mono ?_
  rintro e w4' ⟨hb4', v4', rfl, hn4', hf4'⟩
  have HQ4' := Lib.hid (HQ4.out.below hb4')
  have HX4' := Lib.hid (HX4.out.below hb4')
  have HR4' := Lib.hid hn4'
  clear hb4' hn4' hf4' kb0 kb1 kb2 kb3
  obtain ⟨kb0, kb1, kb2, kb3⟩ := HX4'.out.ins

  go_wp2_with fail
  refine (signed_any (!sb) HQ4'.out).mono ?_
  rintro e w5 ⟨hb5, v5, rfl, s5, u5, rfl, hs5, hn5⟩
  obtain ⟨ao5, k5, c5, rfl⟩ := hn5.form
  have HX5 := Lib.hid (HX4'.out.below hb5)
  have HR5 := Lib.hid (HR4'.out.below hb5)
  have HS5 := Lib.hid hs5
  have HN5 := Lib.hid hn5
  clear hb5 hs5 hn5
  go_wp2_with fail
  refine (signed_any false HR5.out).mono ?_
  rintro e w6 ⟨hb6, v6, rfl, s6, u6, rfl, hs6, hn6⟩
  obtain ⟨ao6, k6, c6, rfl⟩ := hn6.form
  have HX6 := Lib.hid (HX5.out.below hb6)
  obtain ⟨f0, f1, f2, f3, g0, g1, g2, g3⟩ := HX6.out.outs
  have hz6 := HX6.out.size
  have HE := Lib.hid (fun W' => int_end2 (L := LL) (L' := LL) (z := z / y) (z' := z % y) (w := w) (s := s5) (ao := ao5) (k := k5) (c := c5) (s' := s6) (ao' := ao6) (k' := k6) (c' := c6) HX6.out.2.2.1 HX6.out.2.2.2.1 (by omega) HX6.out.2.2.2.2 (by omega) (by omega)
    (by rw [HS5.out, HD.out.1]) (by have := HN5.out.below hb6; rw [HD.out.1] at this; exact this.mono (L' := LL) (by omega))
    (by rw [hs6]; show decide (sgn false _ < 0) = _; rw [HD.out.2]; rfl) (by have := hn6; rw [HD.out.2] at this; exact this.mono (L' := LL) (by omega)) W')
  clear hb6 hs6 hn6 kb0 kb1 kb2 kb3
  go_wp2
  have hE := HE.out _ rfl
  exact bodyPost_ret (v := .tuple #[.agg #[.bool s5, .slice ao5 k5 c5], .agg #[.bool s6, .slice ao6 k6 c6], .int .i64 0]) (by simp [results, Tryz.results21, go_sem, hE.2.2.2.1, hE.2.2.2.2.1, hE.2.2.2.2.2.1, hE.2.2.2.2.2.2]) rfl ⟨hE.1, _, _, rfl, hE.2.1, hE.2.2.1⟩

theorem idiv_any {La Lb : Nat} {va vb : Value} {z y : Int} {w : World} (ha : IntV La w va z) (hb : IntV Lb w vb y) (hy : y ≠ 0) (h1 : La ≤ 268435455) (h2 : Lb ≤ 268435455) :
    Calls Tryz.prog 21 #[va, vb] w (IdRet (max La Lb + 2) w z y) := by
  by_cases hz : 0 ≤ z
  · exact idiv_up ha hb hy hz h1 h2
  · by_cases hr : (z.natAbs % y.natAbs : Int) = 0
    · exact idiv_flat ha hb hy (by omega) hr h1 h2
    · exact idiv_down ha hb hy (by omega) hr h1 h2
end Go.Proofs.YtfhhnfpapgfnmaaGreat

set_option linter.unusedVariables false
set_option linter.unusedSimpArgs false
namespace Go.Proofs.YtfhhnfpapgfnmaaGreat
open Go Go.RowKit
/-- Blocks that a call has laid behind the world w0, one after the other, and that are as they were. -/
def TBxs (w0 : World) (os : List Obj) (W : World) : Prop := Below w0.heap.size w0 W ∧ w0.heap.size + os.length ≤ W.heap.size ∧ ∀ i o, os[i]? = some o → W.heap[w0.heap.size + i]? = some o
theorem TBxs.start (w : World) : TBxs w [] w := ⟨Below.refl _ _, by simp, fun i o h => by simp at h⟩
theorem TBxs.alloc {w0 W : World} {os : List Obj} (h : TBxs w0 os W) (hs : W.heap.size = w0.heap.size + os.length) (o : Obj) : TBxs w0 (os ++ [o]) (W.alloc o) := by
  refine ⟨h.1.alloc h.1.size _, by simp; omega, fun i o' hi => ?_⟩
  by_cases hl : i < os.length
  · rw [List.getElem?_append_left hl] at hi
    exact (heap_alloc_old _ _ (by omega)).trans (h.2.2 i o' hi)
  · rw [List.getElem?_append_right (by omega)] at hi
    have : i - os.length = 0 := by
      apply Classical.byContradiction
      intro hc
      rw [List.getElem?_eq_none (by simp; omega)] at hi
      cases hi
    rw [this] at hi
    simp only [List.getElem?_cons_zero, Option.some.injEq] at hi
    subst hi
    have e : w0.heap.size + i = W.heap.size := by omega
    rw [e]
    exact heap_alloc_new W _
theorem TBxs.below {w0 W W' : World} {os : List Obj} (h : TBxs w0 os W) (hb : Below W.heap.size W W') : TBxs w0 os W' :=
  ⟨h.1.trans (hb.mono h.1.size), Nat.le_trans h.2.1 hb.size, fun i o hi => (hb.block _ (Array.getElem?_eq_some_iff.1 (h.2.2 i o hi)).1).trans (h.2.2 i o hi)⟩
theorem TBxs.b0 {w0 W : World} {o : Obj} {os : List Obj} (h : TBxs w0 (o :: os) W) : W.heap[w0.heap.size]? = some o := h.2.2 0 o rfl
theorem TBxs.b1 {w0 W : World} {o o1 : Obj} {os : List Obj} (h : TBxs w0 (o :: o1 :: os) W) : W.heap[w0.heap.size + 1]? = some o1 := h.2.2 1 o1 rfl
theorem TBxs.b2 {w0 W : World} {o o1 o2 : Obj} {os : List Obj} (h : TBxs w0 (o :: o1 :: o2 :: os) W) : W.heap[w0.heap.size + 1 + 1]? = some o2 := h.2.2 2 o2 rfl
theorem TBxs.l1 {w0 W : World} {o : Obj} {os : List Obj} (h : TBxs w0 (o :: os) W) : w0.heap.size < W.heap.size := (Array.getElem?_eq_some_iff.1 h.b0).1
theorem TBxs.l2 {w0 W : World} {o o1 : Obj} {os : List Obj} (h : TBxs w0 (o :: o1 :: os) W) : w0.heap.size + 1 < W.heap.size := (Array.getElem?_eq_some_iff.1 h.b1).1
theorem TBxs.l3 {w0 W : World} {o o1 o2 : Obj} {os : List Obj} (h : TBxs w0 (o :: o1 :: o2 :: os) W) : w0.heap.size + 1 + 1 < W.heap.size := (Array.getElem?_eq_some_iff.1 h.b2).1
/-- The struct value v is the fraction p by q, in at most L words each. -/
def RatV (L : Nat) (w : World) (v : Value) (p q : Int) : Prop := ∃ sb sv uv, v = .agg #[.bool sb, sv, uv] ∧ sb = decide (p < 0) ∧ Num L w sv p.natAbs ∧ Num L w uv (if q = 1 then 0 else q)
/-- The struct is in lowest terms. -/
def Low (p q : Int) : Prop := 0 < q ∧ Int.gcd p q = 1
def RetRat (L : Nat) (w : World) (p q : Int) (e : Ending) (w' : World) : Prop := Below w.heap.size w w' ∧ ∃ v', e = .returned v' ∧ RatV L w' v' p q
end Go.Proofs.YtfhhnfpapgfnmaaGreat

set_option linter.unusedVariables false
set_option linter.unusedSimpArgs false
namespace Go.Proofs.YtfhhnfpapgfnmaaGreat
open Go Go.RowKit
end Go.Proofs.YtfhhnfpapgfnmaaGreat

set_option linter.unusedVariables false
set_option linter.unusedSimpArgs false
namespace Go.Proofs.YtfhhnfpapgfnmaaGreat
open Go Go.RowKit
end Go.Proofs.YtfhhnfpapgfnmaaGreat

set_option linter.unusedVariables false
set_option linter.unusedSimpArgs false
namespace Go.Proofs.YtfhhnfpapgfnmaaGreat
open Go Go.RowKit
/-- The canonical form of a fraction. -/
def decR (p q : Int) : List UInt8 := if q = 1 then Dg.decZ p else Dg.decZ p ++ 47 :: Dg.decN q.toNat
end Go.Proofs.YtfhhnfpapgfnmaaGreat

set_option linter.unusedVariables false
set_option linter.unusedSimpArgs false
namespace Go.Proofs.YtfhhnfpapgfnmaaGreat
open Go Go.RowKit
/-- The fraction a by b in lowest terms: numerator and denominator. -/
def frN (a b : Int) : Int := (if b < 0 then -a else a) / (Int.gcd a b : Int)
def frD (a b : Int) : Int := (b.natAbs : Int) / (Int.gcd a b : Int)
def MkRet (L : Nat) (w : World) (p q : Int) (e : Ending) (w' : World) : Prop := Below w.heap.size w w' ∧ ∃ v', e = .returned (.tuple #[v', .int .i64 0]) ∧ RatV L w' v' p q
end Go.Proofs.YtfhhnfpapgfnmaaGreat

set_option linter.unusedVariables false
set_option linter.unusedSimpArgs false
namespace Go.Proofs.YtfhhnfpapgfnmaaGreat
open Go Go.RowKit
/-- The zero value of a fraction. -/
abbrev rat0 : Value := .agg #[.bool false, .slice none 0 0, .slice none 0 0]
/-- What Ratio and Make return: a fraction, or ErrZero. -/
def MkRet2 (L : Nat) (w : World) (a b : Int) (e : Ending) (w' : World) : Prop := Below w.heap.size w w' ∧ ∃ v' err, e = .returned (.tuple #[v', .int .i64 err]) ∧ RatV L w' v' (if b = 0 then 0 else frN a b) (if b = 0 then 1 else frD a b) ∧ err = if b = 0 then 6 else 0
end Go.Proofs.YtfhhnfpapgfnmaaGreat

set_option linter.unusedVariables false
set_option linter.unusedSimpArgs false
namespace Go.Proofs.YtfhhnfpapgfnmaaGreat
open Go Go.RowKit
/-- What crossed returns. -/
def CrRet (L : Nat) (w : World) (y z : Int) (e : Ending) (w' : World) : Prop := Below w.heap.size w w' ∧ ∃ v1 v2, e = .returned (.tuple #[v1, v2]) ∧ IntV L w' v1 y ∧ IntV L w' v2 z
end Go.Proofs.YtfhhnfpapgfnmaaGreat

set_option linter.unusedVariables false
set_option linter.unusedSimpArgs false
namespace Go.Proofs.YtfhhnfpapgfnmaaGreat
open Go Go.RowKit
/-- Is the fraction small? -/
def smR (p q : Int) : Bool := smallB p.natAbs && smallB (if q = 1 then 0 else q)
/-- The call returns the small fraction, or panics where it is not small. -/
def SmRat (L : Nat) (w : World) (p q : Int) (e : Ending) (w' : World) : Prop := Below w.heap.size w w' ∧
  ((smR p q = true ∧ ∃ v', e = .returned v' ∧ RatV L w' v' p q) ∨ (smR p q = false ∧ ∃ u pv, e = .panicked [{ v := .iface u pv, recovered := false }]))
/-- What yield returns: a small fraction, or ErrSize. -/
def YdRat (L : Nat) (w : World) (p q : Int) (e : Ending) (w' : World) : Prop := Below w.heap.size w w' ∧
  ((smR p q = true ∧ ∃ v', e = .returned (.tuple #[v', .int .i64 0]) ∧ RatV L w' v' p q) ∨ (smR p q = false ∧ e = .returned (.tuple #[rat0, .int .i64 11])))
end Go.Proofs.YtfhhnfpapgfnmaaGreat

set_option linter.unusedVariables false
set_option linter.unusedSimpArgs false
namespace Go.Proofs.YtfhhnfpapgfnmaaGreat
open Go Go.RowKit
end Go.Proofs.YtfhhnfpapgfnmaaGreat

set_option linter.unusedVariables false
set_option linter.unusedSimpArgs false
namespace Go.Proofs.YtfhhnfpapgfnmaaGreat
open Go Go.RowKit
end Go.Proofs.YtfhhnfpapgfnmaaGreat

set_option linter.unusedVariables false
set_option linter.unusedSimpArgs false
namespace Go.Proofs.YtfhhnfpapgfnmaaGreat
open Go Go.RowKit
end Go.Proofs.YtfhhnfpapgfnmaaGreat

set_option linter.unusedVariables false
set_option linter.unusedSimpArgs false
namespace Go.Proofs.YtfhhnfpapgfnmaaGreat
open Go Go.RowKit
/-- What strings.Cut returns at a slash. -/
def CutRet (s : ByteArray) (w : World) (e : Ending) (w' : World) : Prop := Below w.heap.size w w' ∧
  ((∃ b a : ByteArray, e = .returned (.tuple #[.string b, .string a, .bool true]) ∧ s.data.toList = b.data.toList ++ 47 :: a.data.toList ∧ (47 : UInt8) ∉ b.data.toList ∧ b.size ≤ s.size ∧ a.size ≤ s.size) ∨
   (e = .returned (.tuple #[.string s, .string ⟨#[]⟩, .bool false]) ∧ (47 : UInt8) ∉ s.data.toList))
end Go.Proofs.YtfhhnfpapgfnmaaGreat
namespace Go.Proofs.YtfhhnfpapgfnmaaGreat
open Go Go.RowKit
end Go.Proofs.YtfhhnfpapgfnmaaGreat

set_option linter.unusedVariables false
set_option linter.unusedSimpArgs false
namespace Go.Proofs.YtfhhnfpapgfnmaaGreat
open Go Go.RowKit
/-- What ParseRat returns: the fraction, ErrForm or ErrSize. -/
def PrRet (s : ByteArray) (w : World) (e : Ending) (w' : World) : Prop := Below w.heap.size w w' ∧
  ((∃ p q v', s.data.toList = decR p q ∧ Low p q ∧ smR p q = true ∧ e = .returned (.tuple #[v', .int .i64 0]) ∧ RatV (s.size + 40000) w' v' p q) ∨
   (∃ p q, s.data.toList = decR p q ∧ Low p q ∧ smR p q = false ∧ e = .returned (.tuple #[rat0, .int .i64 11])) ∨
   ((∀ p q, Low p q → s.data.toList ≠ decR p q) ∧ e = .returned (.tuple #[rat0, .int .i64 10])))
/-- A fact that no tactic looks into. -/
structure TKept (p : Prop) : Prop where
  out : p
end Go.Proofs.YtfhhnfpapgfnmaaGreat

set_option linter.unusedVariables false
set_option linter.unusedSimpArgs false
namespace Go.Proofs.YtfhhnfpapgfnmaaGreat
open Go Go.RowKit
theorem IntV.fit {L : Nat} {w : World} {v : Value} {z : Int} (h : IntV L w v z) (hs : smallB z.natAbs = true) : IntV 625 w v z := by
  obtain ⟨sb, sv, e, h1, xs, a1, a2, a3, a4, a5⟩ := h
  refine ⟨sb, sv, e, h1, xs, a1, a2, a3, a4, ?_⟩
  refine Dg.len_le_of_val_lt (by decide) a2 a3 ?_
  rw [a4]
  have h2 : (z.natAbs : Int) < 2 ^ maxBits := of_decide_eq_true hs
  rw [show maxBits = 64 * 625 from rfl, Int.pow_mul] at h2
  exact h2
end Go.Proofs.YtfhhnfpapgfnmaaGreat

set_option linter.unusedVariables false
set_option linter.unusedSimpArgs false
namespace Go.Proofs.YtfhhnfpapgfnmaaGreat
open Go Go.RowKit
theorem TBxs.grown {w0 W W' : World} {os : List Obj} {row : Option Nat} (h : TBxs w0 os W) (hg : W.grownBy W' row) (hr : ∀ k, row = some k → w0.heap.size + os.length ≤ k) : TBxs w0 os W' :=
  ⟨h.1.grown hg h.1.size (fun k hk => by have := hr k hk; omega), Nat.le_trans h.2.1 hg.size, fun i o hi => by
    have hl := h.2.1
    have hi' : i < os.length := (List.getElem?_eq_some_iff.1 hi).1
    rw [hg.block (w0.heap.size + i) (by omega) (fun e => by have := hr _ e.symm; omega)]
    exact h.2.2 i o hi⟩
/-- The call returns z, and no error. -/
def RetOk (L : Nat) (w : World) (z : Int) (e : Ending) (w' : World) : Prop := Below w.heap.size w w' ∧ ∃ s ao k c, e = .returned (.tuple #[.agg #[.bool s, .slice ao k c], .int .i64 0]) ∧ IntV L w' (.agg #[.bool s, .slice ao k c]) z
theorem YdRet.yes {L : Nat} {w : World} {z : Int} {e : Ending} {w' : World} (h : YdRet L w z e w') (hs : smallB z.natAbs = true) : RetOk 625 w z e w' := by
  obtain ⟨hb, ⟨hsm, v', rfl, hI⟩ | ⟨hsm, _⟩⟩ := h
  · obtain ⟨s, sv, rfl, h1, hn⟩ := hI.fit hsm
    obtain ⟨ao, k, c, rfl⟩ := hn.form
    exact ⟨hb, s, ao, k, c, rfl, _, _, rfl, h1, hn⟩
  · rw [hs] at hsm; cases hsm
end Go.Proofs.YtfhhnfpapgfnmaaGreat

set_option linter.unusedVariables false
set_option linter.unusedSectionVars false
set_option linter.unusedSimpArgs false
namespace Go.Proofs.YtfhhnfpapgfnmaaGreat
namespace FFld
/-! Finite fields: Fermat's law, the number of roots, generators. -/
/-- A commutative ring without divisors of 0. -/
structure Dom (α : Type) where
  add : α → α → α
  mul : α → α → α
  zero : α
  one : α
  neg : α → α
  add_assoc : ∀ a b c, add (add a b) c = add a (add b c)
  add_comm : ∀ a b, add a b = add b a
  add_zero : ∀ a, add a zero = a
  add_neg : ∀ a, add a (neg a) = zero
  mul_assoc : ∀ a b c, mul (mul a b) c = mul a (mul b c)
  mul_comm : ∀ a b, mul a b = mul b a
  mul_one : ∀ a, mul a one = a
  mul_add : ∀ a b c, mul a (add b c) = add (mul a b) (mul a c)
  nzd : ∀ a b, mul a b = zero → a = zero ∨ b = zero
  one_ne : one ≠ zero
variable {α : Type} (F : Dom α)
namespace Dom
theorem zero_add (a : α) : F.add F.zero a = a := by rw [F.add_comm, F.add_zero]
theorem add_left_cancel {a b c : α} (h : F.add a b = F.add a c) : b = c := by
  have h1 : F.add (F.neg a) (F.add a b) = F.add (F.neg a) (F.add a c) := by rw [h]
  rw [← F.add_assoc, ← F.add_assoc, F.add_comm (F.neg a) a, F.add_neg, F.zero_add, F.zero_add] at h1
  exact h1
theorem mul_zero (a : α) : F.mul a F.zero = F.zero := by
  have h : F.add (F.mul a F.zero) (F.mul a F.zero) = F.add (F.mul a F.zero) F.zero := by
    rw [← F.mul_add, F.add_zero, F.add_zero]
  exact F.add_left_cancel h
theorem zero_mul (a : α) : F.mul F.zero a = F.zero := by rw [F.mul_comm, F.mul_zero]
theorem one_mul (a : α) : F.mul F.one a = a := by rw [F.mul_comm, F.mul_one]
theorem add_mul (a b c : α) : F.mul (F.add a b) c = F.add (F.mul a c) (F.mul b c) := by rw [F.mul_comm, F.mul_add, F.mul_comm c a, F.mul_comm c b]
theorem neg_unique {a b : α} (h : F.add a b = F.zero) : b = F.neg a := F.add_left_cancel (h.trans (F.add_neg a).symm)
theorem mul_neg (a b : α) : F.mul a (F.neg b) = F.neg (F.mul a b) := by
  apply F.neg_unique
  rw [← F.mul_add, F.add_neg, F.mul_zero]
theorem neg_neg (a : α) : F.neg (F.neg a) = a := by
  symm
  apply F.neg_unique
  rw [F.add_comm, F.add_neg]
theorem eq_of_sub {a b : α} (h : F.add a (F.neg b) = F.zero) : a = b := by
  have := F.neg_unique (a := F.neg b) (b := a) (by rw [F.add_comm]; exact h)
  rw [F.neg_neg] at this
  exact this
theorem mul_left_cancel {a b c : α} (ha : a ≠ F.zero) (h : F.mul a b = F.mul a c) : b = c := by
  have h1 : F.mul a (F.add b (F.neg c)) = F.zero := by rw [F.mul_add, F.mul_neg, h, F.add_neg]
  rcases F.nzd _ _ h1 with h2 | h2
  · exact absurd h2 ha
  · exact F.eq_of_sub h2
theorem mul_ne {a b : α} (ha : a ≠ F.zero) (hb : b ≠ F.zero) : F.mul a b ≠ F.zero := fun h => by
  rcases F.nzd _ _ h with h | h
  · exact ha h
  · exact hb h
/-- Powers. -/
def pow (F : Dom α) (a : α) : Nat → α
  | 0 => F.one
  | n + 1 => F.mul (pow F a n) a
theorem pow_zero (a : α) : F.pow a 0 = F.one := rfl
theorem pow_succ (a : α) (n : Nat) : F.pow a (n + 1) = F.mul (F.pow a n) a := rfl
theorem pow_add (a : α) (m n : Nat) : F.pow a (m + n) = F.mul (F.pow a m) (F.pow a n) := by
  induction n with
  | zero => rw [Nat.add_zero, pow_zero, F.mul_one]
  | succ n ih => rw [← Nat.add_assoc, pow_succ, pow_succ, ih, F.mul_assoc]
theorem one_pow (n : Nat) : F.pow F.one n = F.one := by
  induction n with
  | zero => rfl
  | succ n ih => rw [pow_succ, ih, F.mul_one]
theorem mul_pow (a b : α) (n : Nat) : F.pow (F.mul a b) n = F.mul (F.pow a n) (F.pow b n) := by
  induction n with
  | zero => rw [pow_zero, pow_zero, pow_zero, F.mul_one]
  | succ n ih => rw [pow_succ, pow_succ, pow_succ, ih, F.mul_assoc, F.mul_assoc, ← F.mul_assoc (F.pow b n), F.mul_comm (F.pow b n) a, F.mul_assoc]
theorem pow_mul (a : α) (m n : Nat) : F.pow a (m * n) = F.pow (F.pow a m) n := by
  induction n with
  | zero => rfl
  | succ n ih => rw [Nat.mul_succ, pow_add, ih, pow_succ]
theorem pow_ne {a : α} (ha : a ≠ F.zero) (n : Nat) : F.pow a n ≠ F.zero := by
  induction n with
  | zero => exact F.one_ne
  | succ n ih => exact F.mul_ne ih ha
/-! Roots of polynomials. -/
def eval (F : Dom α) : List α → α → α
  | [], _ => F.zero
  | c :: l, x => F.add c (F.mul x (eval F l x))
/-- The quotient by x - r. -/
def syn (F : Dom α) : List α → α → List α
  | [], _ => []
  | _ :: [], _ => []
  | _ :: c :: t, r => F.eval (c :: t) r :: syn F (c :: t) r
theorem syn_len (l : List α) (r : α) : (F.syn l r).length = l.length - 1 := by
  induction l with
  | nil => rfl
  | cons c l ih => cases l with
    | nil => rfl
    | cons d t => simp only [syn, List.length_cons] at ih ⊢; omega
theorem eval_syn (l : List α) (r x : α) : F.add (F.eval l x) (F.mul r (F.eval (F.syn l r) x)) = F.add (F.eval l r) (F.mul x (F.eval (F.syn l r) x)) := by
  induction l with
  | nil => simp only [syn, eval, F.mul_zero]
  | cons c l ih => cases l with
    | nil => simp only [syn, eval, F.mul_zero]
    | cons d t =>
      have e : F.eval (F.syn (c :: d :: t) r) x = F.add (F.eval (d :: t) r) (F.mul x (F.eval (F.syn (d :: t) r) x)) := rfl
      have e1 : ∀ y, F.eval (c :: d :: t) y = F.add c (F.mul y (F.eval (d :: t) y)) := fun _ => rfl
      rw [e, e1, e1]
      generalize F.eval (d :: t) x = P at *
      generalize F.eval (d :: t) r = Q at *
      generalize F.eval (F.syn (d :: t) r) x = S at *
      rw [← ih]
      have h1 : F.mul x (F.add P (F.mul r S)) = F.add (F.mul x P) (F.mul r (F.mul x S)) := by rw [F.mul_add, ← F.mul_assoc x r S, F.mul_comm x r, F.mul_assoc]
      have h2 : F.mul r (F.add P (F.mul r S)) = F.add (F.mul r Q) (F.mul r (F.mul x S)) := by rw [ih, F.mul_add]
      rw [h1, h2, F.add_assoc, F.add_assoc]
      congr 1
      rw [← F.add_assoc, ← F.add_assoc, F.add_comm (F.mul x P)]
theorem roots (R : List α) (hR : R.Nodup) : ∀ (l : List α), l.length ≤ R.length → (∀ r ∈ R, F.eval l r = F.zero) → ∀ x, F.eval l x = F.zero := by
  induction R with
  | nil => intro l h _ x; rw [List.eq_nil_of_length_eq_zero (Nat.le_zero.1 h)]; rfl
  | cons r R ih =>
    intro l h hr x
    obtain ⟨hn, hR'⟩ := List.nodup_cons.1 hR
    have h0 := hr r List.mem_cons_self
    have hs : ∀ x, F.eval (F.syn l r) x = F.zero := by
      refine ih hR' _ (by rw [syn_len]; simp only [List.length_cons] at h; omega) (fun q hq => ?_)
      have hq0 := hr q (List.mem_cons_of_mem _ hq)
      have e := F.eval_syn l r q
      rw [h0, hq0, F.zero_add, F.zero_add] at e
      have e2 : F.mul (F.add q (F.neg r)) (F.eval (F.syn l r) q) = F.zero := by
        rw [F.add_mul, ← e, F.mul_comm (F.neg r), F.mul_neg, F.mul_comm _ r, F.add_neg]
      rcases F.nzd _ _ e2 with e3 | e3
      · exact absurd (F.eq_of_sub e3 ▸ hq) hn
      · exact e3
    have e := F.eval_syn l r x
    rw [h0, hs x, F.mul_zero, F.mul_zero, F.add_zero, F.add_zero] at e
    exact e
/-- The polynomial x ^ n. -/
def mono (F : Dom α) : Nat → List α
  | 0 => [F.one]
  | n + 1 => F.zero :: mono F n
theorem mono_len (n : Nat) : (F.mono n).length = n + 1 := by
  induction n with
  | zero => rfl
  | succ n ih => simp only [mono, List.length_cons, ih]
theorem eval_mono (n : Nat) (x : α) : F.eval (F.mono n) x = F.pow x n := by
  induction n with
  | zero => simp only [mono, eval, F.mul_zero, F.add_zero, pow_zero]
  | succ n ih => simp only [mono, eval, ih, F.zero_add, pow_succ]; rw [F.mul_comm]
/-- Of n > 0, fewer than n + 1 different elements have the n-th power 1. -/
theorem roots_pow {n : Nat} (hn : 0 < n) (R : List α) (hR : R.Nodup) (h : ∀ r ∈ R, F.pow r n = F.one) : R.length ≤ n := by
  rcases Nat.lt_or_ge n R.length with hlt | hle
  · exfalso
    obtain ⟨m, rfl⟩ : ∃ m, n = m + 1 := ⟨n - 1, by omega⟩
    have hz := F.roots R hR (F.neg F.one :: F.mono m) (by simp only [List.length_cons, mono_len]; omega) (fun r hr => by
      simp only [eval, eval_mono]
      rw [F.mul_comm r, ← pow_succ, h r hr, F.add_comm, F.add_neg]) F.zero
    simp only [eval, F.zero_mul, F.add_zero] at hz
    have h1 := F.add_neg F.one
    rw [hz, F.add_zero] at h1
    exact F.one_ne h1
  · exact hle
/-! Fermat's law: by the product of all elements that are not 0. -/
def prod (F : Dom α) : List α → α
  | [] => F.one
  | a :: l => F.mul a (prod F l)
theorem prod_perm {l m : List α} (h : l.Perm m) : F.prod l = F.prod m := by
  induction h with
  | nil => rfl
  | cons a _ ih => simp only [prod, ih]
  | swap a b l => simp only [prod]; rw [← F.mul_assoc, ← F.mul_assoc, F.mul_comm b a]
  | trans _ _ h1 h2 => exact h1.trans h2
theorem prod_map (a : α) (l : List α) : F.prod (l.map (F.mul a)) = F.mul (F.pow a l.length) (F.prod l) := by
  induction l with
  | nil => simp only [List.map_nil, prod, List.length_nil, pow_zero, F.mul_one]
  | cons b l ih =>
    simp only [List.map_cons, prod, ih, List.length_cons, pow_succ]
    rw [F.mul_assoc, F.mul_assoc, ← F.mul_assoc b, F.mul_comm b (F.pow a l.length), F.mul_assoc, ← F.mul_assoc a, F.mul_comm a (F.pow a l.length), F.mul_assoc]
theorem prod_ne {l : List α} (h : ∀ a ∈ l, a ≠ F.zero) : F.prod l ≠ F.zero := by
  induction l with
  | nil => exact F.one_ne
  | cons b l ih => exact F.mul_ne (h b List.mem_cons_self) (ih fun a ha => h a (List.mem_cons_of_mem _ ha))
end Dom
theorem perm_of_sub {l m : List α} (hl : l.Nodup) (hs : ∀ a ∈ l, a ∈ m) (hn : m.length ≤ l.length) : l.Perm m := by
  induction l generalizing m with
  | nil => rw [List.eq_nil_of_length_eq_zero (Nat.le_zero.1 hn)]
  | cons a l ih =>
    obtain ⟨ha, hl'⟩ := List.nodup_cons.1 hl
    obtain ⟨m1, m2, rfl⟩ := List.append_of_mem (hs a List.mem_cons_self)
    refine ((ih (m := m1 ++ m2) hl' (fun b hb => ?_) (by simp only [List.length_append, List.length_cons] at hn ⊢; omega)).cons a).trans List.perm_middle.symm
    have := hs b (List.mem_cons_of_mem _ hb)
    simp only [List.mem_append, List.mem_cons] at this ⊢
    rcases this with h | h | h
    · exact .inl h
    · exact absurd (h ▸ hb) ha
    · exact .inr h
namespace Dom
theorem nodup_map {a : α} (ha : a ≠ F.zero) {l : List α} (h : l.Nodup) : (l.map (F.mul a)).Nodup := by
  induction l with
  | nil => exact List.nodup_nil
  | cons b l ih =>
    obtain ⟨hb, hl⟩ := List.nodup_cons.1 h
    refine List.nodup_cons.2 ⟨fun hm => ?_, ih hl⟩
    obtain ⟨c, hc, e⟩ := List.mem_map.1 hm
    exact hb (F.mul_left_cancel ha e ▸ hc)
/-- L is the list of all elements that are not 0. -/
structure All (F : Dom α) (L : List α) : Prop where
  nodup : L.Nodup
  mem : ∀ a, a ∈ L ↔ a ≠ F.zero
theorem fermat {L : List α} (hL : F.All L) {a : α} (ha : a ≠ F.zero) : F.pow a L.length = F.one := by
  have hp : (L.map (F.mul a)).Perm L := perm_of_sub (F.nodup_map ha hL.nodup) (fun b hb => by
    obtain ⟨c, hc, rfl⟩ := List.mem_map.1 hb
    exact (hL.mem _).2 (F.mul_ne ha ((hL.mem _).1 hc))) (by rw [List.length_map]; exact Nat.le_refl _)
  have h := F.prod_perm hp
  rw [prod_map] at h
  have hne := F.prod_ne (l := L) fun a h => (hL.mem a).1 h
  apply F.mul_left_cancel hne
  rw [F.mul_one, F.mul_comm]
  exact h
/-! Orders. -/
/-- n is the order of a. -/
def Ord (F : Dom α) (a : α) (n : Nat) : Prop := ∀ k, F.pow a k = F.one ↔ n ∣ k
theorem pow_gcd {a : α} : ∀ (m n : Nat), F.pow a m = F.one → F.pow a n = F.one → F.pow a (Nat.gcd m n) = F.one := by
  intro m
  induction m using Nat.strongRecOn with
  | ind m ih =>
    intro n hm hn
    rcases Nat.eq_zero_or_pos m with h | h
    · subst h; rw [Nat.gcd_zero_left]; exact hn
    · rw [Nat.gcd_rec]
      refine ih _ (Nat.mod_lt _ h) _ ?_ hm
      have e := Nat.div_add_mod n m
      rw [← e, pow_add, pow_mul, hm, one_pow, F.one_mul] at hn
      exact hn
/-- A power of a prime is the order of a, if a to it is 1 and a to the next lower one is not. -/
theorem ord_prime {a : α} {f e : Nat} (hf : ∀ d, d ∣ f ^ (e + 1) → d ∣ f ^ e ∨ d = f ^ (e + 1)) (h1 : F.pow a (f ^ (e + 1)) = F.one) (h0 : F.pow a (f ^ e) ≠ F.one) : F.Ord a (f ^ (e + 1)) := by
  intro k
  constructor
  · intro hk
    have hg := F.pow_gcd _ _ hk h1
    rcases hf _ (Nat.gcd_dvd_right k (f ^ (e + 1))) with h | h
    · obtain ⟨c, hc⟩ := h
      exact absurd (by rw [hc, pow_mul, hg, one_pow]) h0
    · rw [← h]; exact Nat.gcd_dvd_left _ _
  · rintro ⟨c, rfl⟩
    rw [pow_mul, h1, one_pow]
theorem ord_mul {a b : α} {m n : Nat} (ha : F.Ord a m) (hb : F.Ord b n) (hc : Nat.Coprime m n) : F.Ord (F.mul a b) (m * n) := by
  intro k
  constructor
  · intro hk
    rw [mul_pow] at hk
    have h1 : F.pow b (k * m) = F.one := by
      have := congrArg (fun x => F.pow x m) hk
      simp only [mul_pow, one_pow, ← pow_mul] at this
      rw [(ha (k * m)).2 (Nat.dvd_mul_left _ _), F.one_mul] at this
      exact this
    have h2 : F.pow a (k * n) = F.one := by
      have := congrArg (fun x => F.pow x n) hk
      simp only [mul_pow, one_pow, ← pow_mul] at this
      rw [(hb (k * n)).2 (Nat.dvd_mul_left _ _), F.mul_one] at this
      exact this
    have d1 : n ∣ k := hc.symm.dvd_of_dvd_mul_right ((hb _).1 h1)
    have d2 : m ∣ k := hc.dvd_of_dvd_mul_right ((ha _).1 h2)
    exact Nat.Coprime.mul_dvd_of_dvd_of_dvd hc d2 d1
  · rintro ⟨c, rfl⟩
    rw [mul_pow, Nat.mul_assoc, pow_mul, (ha m).2 (Nat.dvd_refl _), one_pow, F.one_mul, Nat.mul_left_comm, pow_mul, (hb n).2 (Nat.dvd_refl _), one_pow]
end Dom
/-! Primes. -/
def Prime (f : Nat) : Prop := 2 ≤ f ∧ ∀ d, d ∣ f → d = 1 ∨ d = f
theorem exists_prime : ∀ (n : Nat), 2 ≤ n → ∃ f, Prime f ∧ f ∣ n := by
  intro n
  induction n using Nat.strongRecOn with
  | ind n ih =>
    intro hn
    by_cases h : ∀ d, d ∣ n → d = 1 ∨ d = n
    · exact ⟨n, ⟨hn, h⟩, Nat.dvd_refl _⟩
    · simp only [Classical.not_forall, not_or] at h
      obtain ⟨d, hd, h1, h2⟩ := h
      have hle := Nat.le_of_dvd (by omega) hd
      have h0 : d ≠ 0 := by rintro rfl; rw [Nat.zero_dvd] at hd; omega
      obtain ⟨f, hf, hfd⟩ := ih d (by omega) (by omega)
      exact ⟨f, hf, Nat.dvd_trans hfd hd⟩
theorem Prime.coprime {f c : Nat} (hf : Prime f) (h : ¬ f ∣ c) : Nat.Coprime f c := by
  rcases hf.2 _ (Nat.gcd_dvd_left f c) with h1 | h1
  · exact h1
  · exact absurd (h1 ▸ Nat.gcd_dvd_right f c) h
theorem Prime.dvd_mul {f a b : Nat} (hf : Prime f) (h : f ∣ a * b) : f ∣ a ∨ f ∣ b := by
  by_cases ha : f ∣ a
  · exact .inl ha
  · exact .inr ((hf.coprime ha).dvd_of_dvd_mul_left h)
theorem Prime.dvd_pow {f e d : Nat} (hf : Prime f) (h : d ∣ f ^ (e + 1)) : d ∣ f ^ e ∨ d = f ^ (e + 1) := by
  obtain ⟨c, hc⟩ := h
  by_cases h1 : f ∣ c
  · obtain ⟨k, rfl⟩ := h1
    left
    refine ⟨k, ?_⟩
    have : f * f ^ e = f * (d * k) := by rw [← Nat.pow_succ', hc, Nat.mul_left_comm]
    exact Nat.eq_of_mul_eq_mul_left (by have := hf.1; omega) this
  · right
    have h2 : Nat.Coprime c (f ^ (e + 1)) := ((hf.coprime h1).symm).pow_right _
    have h3 : c ∣ f ^ (e + 1) := ⟨d, by rw [hc, Nat.mul_comm]⟩
    have h4 : c = 1 := Nat.Coprime.eq_one_of_dvd h2 h3
    rw [hc, h4, Nat.mul_one]
theorem lt_mul2 {f k : Nat} (hk : 0 < k) (hf : 2 ≤ f) : k < f * k := by
  have := Nat.mul_le_mul_right k hf
  omega
/-- The power of a prime in a number. -/
theorem Prime.part {f : Nat} (hf : Prime f) : ∀ (n : Nat), 0 < n → f ∣ n → ∃ e m, n = f ^ (e + 1) * m ∧ ¬ f ∣ m := by
  intro n
  induction n using Nat.strongRecOn with
  | ind n ih =>
    intro hn ⟨k, hk⟩
    have h2 := hf.1
    have hk0 : 0 < k := by rcases Nat.eq_zero_or_pos k with h | h; subst h; omega; exact h
    by_cases h : f ∣ k
    · obtain ⟨e, m, e1, e2⟩ := ih k (by rw [hk]; exact lt_mul2 hk0 h2) hk0 h
      exact ⟨e + 1, m, by rw [hk, e1, Nat.pow_succ f (e + 1), Nat.mul_comm (f ^ (e + 1)) f, Nat.mul_assoc], e2⟩
    · exact ⟨0, k, by rw [hk]; simp, h⟩
namespace Dom
theorem exists_ord {L : List α} (hL : F.All L) : ∀ (N : Nat), N ∣ L.length → 0 < L.length → ∃ a, a ≠ F.zero ∧ F.Ord a N := by
  intro N
  induction N using Nat.strongRecOn with
  | ind N ih =>
    intro hN hQ
    have hN0 : 0 < N := Nat.pos_of_dvd_of_pos hN hQ
    by_cases h1 : N = 1
    · subst h1
      exact ⟨F.one, F.one_ne, fun k => ⟨fun _ => Nat.one_dvd k, fun _ => F.one_pow k⟩⟩
    · obtain ⟨f, hf, hfN⟩ := exists_prime N (by omega)
      obtain ⟨e, m, he, hm⟩ := hf.part N hN0 hfN
      have h2 := hf.1
      have hm0 : 0 < m := by rcases Nat.eq_zero_or_pos m with h | h; subst h; omega; exact h
      obtain ⟨c, hc⟩ := hN
      have hc0 : 0 < c := by rcases Nat.eq_zero_or_pos c with h | h; subst h; omega; exact h
      have hlen : L.length = f ^ (e + 1) * (m * c) := by rw [hc, he, Nat.mul_assoc]
      have hlen2 : L.length = f * (f ^ e * (m * c)) := by rw [hlen, Nat.pow_succ', Nat.mul_assoc]
      have hpos : 0 < f ^ e * (m * c) := Nat.mul_pos (Nat.pow_pos (by omega)) (Nat.mul_pos hm0 hc0)
      obtain ⟨a, ha, hne⟩ : ∃ a, a ≠ F.zero ∧ F.pow a (f ^ e * (m * c)) ≠ F.one := by
        apply Classical.byContradiction
        intro hno
        have hall : ∀ a ∈ L, F.pow a (f ^ e * (m * c)) = F.one := fun a ha => by
          apply Classical.byContradiction
          intro hx
          exact hno ⟨a, (hL.mem a).1 ha, hx⟩
        have := F.roots_pow hpos L hL.nodup hall
        rw [hlen2] at this
        have h3 : f ^ e * (m * c) < f * (f ^ e * (m * c)) := lt_mul2 hpos h2
        omega
      have hb : F.Ord (F.pow a (m * c)) (f ^ (e + 1)) := by
        refine F.ord_prime (fun d hd => hf.dvd_pow hd) ?_ ?_
        · rw [← pow_mul, Nat.mul_comm, ← hlen]; exact F.fermat hL ha
        · rw [← pow_mul, Nat.mul_comm]; exact hne
      have hlt : m < N := by
        rw [he]
        exact lt_mul2 hm0 (Nat.le_trans h2 (by rw [Nat.pow_succ]; exact Nat.le_mul_of_pos_left _ (Nat.pow_pos (by omega))))
      obtain ⟨g, hg, hgo⟩ := ih m hlt ⟨f ^ (e + 1) * c, by rw [hlen]; exact Nat.mul_left_comm _ _ _⟩ hQ
      refine ⟨F.mul (F.pow a (m * c)) g, F.mul_ne (F.pow_ne ha _) hg, ?_⟩
      rw [he]
      exact F.ord_mul hb hgo (Nat.Coprime.pow_left _ (hf.coprime hm))
/-- A generator: an element whose order is that of all that are not 0. -/
theorem exists_gen {L : List α} (hL : F.All L) (h : 0 < L.length) : ∃ g, g ≠ F.zero ∧ F.Ord g L.length := F.exists_ord hL _ (Nat.dvd_refl _) h
/-- What tells a generator. -/
theorem ord_of_test {L : List α} (hL : F.All L) (h : 0 < L.length) {g : α} (hg : g ≠ F.zero) (ht : ∀ f, Prime f → f ∣ L.length → F.pow g (L.length / f) ≠ F.one) : F.Ord g L.length := by
  intro k
  constructor
  · intro hk
    have hd := F.pow_gcd _ _ hk (F.fermat hL hg)
    have hdv := Nat.gcd_dvd_right k L.length
    by_cases he : Nat.gcd k L.length = L.length
    · rw [← he]; exact Nat.gcd_dvd_left _ _
    · exfalso
      obtain ⟨c, hc⟩ := hdv
      have hc1 : c ≠ 1 := fun h1 => he (by rw [h1, Nat.mul_one] at hc; exact hc.symm)
      have hc0 : c ≠ 0 := fun h0 => by rw [h0, Nat.mul_zero] at hc; omega
      obtain ⟨f, hf, b, hb⟩ := exists_prime c (by omega)
      have h2 := hf.1
      have e2 : L.length = f * (Nat.gcd k L.length * b) := by
        conv => lhs; rw [hc, hb]
        exact Nat.mul_left_comm _ _ _
      refine ht f hf ⟨_, e2⟩ ?_
      have e : L.length / f = Nat.gcd k L.length * b := by
        generalize Nat.gcd k L.length * b = x at e2
        rw [e2]
        exact Nat.mul_div_cancel_left _ (by omega)
      rw [e, pow_mul, hd, one_pow]
  · rintro ⟨c, rfl⟩
    rw [pow_mul, F.fermat hL hg, one_pow]
theorem test_of_ord {g : α} {n f : Nat} (hn : 0 < n) (ho : F.Ord g n) (hf : 2 ≤ f) (hd : f ∣ n) : F.pow g (n / f) ≠ F.one := fun h => by
  have h1 := (ho _).1 h
  have h2 : 0 < n / f := Nat.div_pos (Nat.le_of_dvd hn hd) (by omega)
  have h3 := Nat.le_of_dvd h2 h1
  have h4 := Nat.div_lt_self hn (by omega : 1 < f)
  omega
/-- Powers below the order are different. -/
theorem pow_inj {g : α} {n : Nat} (hg : g ≠ F.zero) (ho : F.Ord g n) {i j : Nat} (hi : i < n) (hj : j < n) (h : F.pow g i = F.pow g j) : i = j := by
  have key : ∀ {i j : Nat}, i ≤ j → j < n → F.pow g i = F.pow g j → i = j := fun {i j} hij hj h => by
    obtain ⟨d, rfl⟩ := Nat.exists_eq_add_of_le hij
    rw [pow_add] at h
    have h1 : F.pow g d = F.one := F.mul_left_cancel (F.pow_ne hg i) (by rw [← h, F.mul_one])
    have h2 := (ho d).1 h1
    rcases Nat.eq_zero_or_pos d with h0 | h0
    · omega
    · have := Nat.le_of_dvd h0 h2; omega
  rcases Nat.le_total i j with hij | hij
  · exact key hij hj h
  · exact (key hij hi h.symm).symm
/-- Every element that is not 0 is a power of a generator. -/
theorem exists_log {L : List α} (hL : F.All L) {g : α} (hg : g ≠ F.zero) (ho : F.Ord g L.length) {a : α} (ha : a ≠ F.zero) : ∃ k, k < L.length ∧ F.pow g k = a := by
  have hnd : ((List.range L.length).map (F.pow g)).Nodup := by
    unfold List.Nodup
    rw [List.pairwise_map]
    refine List.pairwise_lt_range.imp_of_mem (fun {i j} hi hj hlt he => ?_)
    have := F.pow_inj hg ho (List.mem_range.1 hi) (List.mem_range.1 hj) he
    omega
  have hp := perm_of_sub (m := L) hnd (fun b hb => by
    obtain ⟨i, _, rfl⟩ := List.mem_map.1 hb
    exact (hL.mem _).2 (F.pow_ne hg i)) (by simp)
  have hm := hp.mem_iff.2 ((hL.mem a).2 ha)
  obtain ⟨k, hk, e⟩ := List.mem_map.1 hm
  exact ⟨k, List.mem_range.1 hk, e⟩
end Dom
end FFld
end Go.Proofs.YtfhhnfpapgfnmaaGreat
