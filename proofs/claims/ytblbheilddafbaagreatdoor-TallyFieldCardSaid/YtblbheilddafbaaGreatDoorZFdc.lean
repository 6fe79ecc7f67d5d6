/-
  Texts of the proof, merged by program: Fd Fdc.
-/
import Derived.Test.YtblbheilddafbaaGreatDoorZFle
import Derived.Test.YtblbheilddafbaaGreatDoorZFra
import Derived.Test.YtblbheilddafbaaGreatDoorZRsb
import Derived.Test.YtblbheilddafbaaGreatDoorZ22
import Derived.SizedLaws
import Derived.ChangeMaps5
set_option linter.unusedVariables false
set_option linter.unusedSimpArgs false
namespace Go.Proofs.YtblbheilddafbaaGreatDoor
open Go Go.RowKit
set_option maxRecDepth 20000 in
set_option maxHeartbeats 20000000 in
theorem tallyField_any (s t u : ByteArray) (w : World) (hs : s.size ≤ 140737488355328) (ht : t.size ≤ 140737488355328) (hu : u.size ≤ 140737488355328) :
    Calls Tryz.prog 16 #[.string s, .string t, .string u] w (RetV w (.bool true)) := by
  have HW : Kept (Below w.heap.size w w) := ⟨Below.refl _ _⟩
  have hnot : ∀ (x : Bool) (w : World), (Op.unary .not (.bool x)).run Tryz.prog w = .ok (.bool (!x)) w := fun _ _ => rfl
  go_enter Tryz.func16, Tryz.ntmps16
  go_wp2_with fail
  refine (frac_any s _ hs).mono ?_
  rintro e w1 ⟨hb1, sa_1, ao_1, uo_1, ka_1, ca_1, ku_1, cu_1, s1_1, s2_1, o1_1, o2_1, k1_1, c1_1, k2_1, c2_1, ok1, rfl, hy1⟩
  replace HW := Kept.mk (HW.out.trans (Below.mono hb1 HW.out.size))
  have HY1 := Kept.mk hy1
  clear hb1 hy1
  have hal1 : Below w1.heap.size w1 ((w1.alloc (.cells #[.bool sa_1, .slice ao_1 ka_1 ca_1, .slice uo_1 ku_1 cu_1] 76)).alloc (.cells #[.bool s1_1, .slice o1_1 k1_1 c1_1, .bool s2_1, .slice o2_1 k2_1 c2_1] 72)) := ((Below.refl _ _).alloc (Nat.le_refl _) _).alloc (by simp) _
  replace HW := Kept.mk (HW.out.trans (Below.mono hal1 HW.out.size))
  have HBa1 : Kept (H3 ((w1.alloc (.cells #[.bool sa_1, .slice ao_1 ka_1 ca_1, .slice uo_1 ku_1 cu_1] 76)).alloc (.cells #[.bool s1_1, .slice o1_1 k1_1 c1_1, .bool s2_1, .slice o2_1 k2_1 c2_1] 72)) w1.heap.size (.bool sa_1) (.slice ao_1 ka_1 ca_1) (.slice uo_1 ku_1 cu_1)) := ⟨(H3.new _ _ _ _ _ rfl).below ((Below.refl _ _).alloc (Nat.le_refl _) _)⟩
  have HBx1 : Kept (H4 ((w1.alloc (.cells #[.bool sa_1, .slice ao_1 ka_1 ca_1, .slice uo_1 ku_1 cu_1] 76)).alloc (.cells #[.bool s1_1, .slice o1_1 k1_1 c1_1, .bool s2_1, .slice o2_1 k2_1 c2_1] 72)) (w1.heap.size + 1) (.bool s1_1) (.slice o1_1 k1_1 c1_1) (.bool s2_1) (.slice o2_1 k2_1 c2_1)) := ⟨H4.new _ _ _ _ _ _ (by simp)⟩
  have HAL1 := Kept.mk hal1
  clear hal1
  cases ok1
  · skip
    clear HBa1 HBx1 HY1 HAL1
    go_wp2_with fail
    refine (frac_any t _ ht).mono ?_
    rintro e w2 ⟨hb2, sa_2, ao_2, uo_2, ka_2, ca_2, ku_2, cu_2, s1_2, s2_2, o1_2, o2_2, k1_2, c1_2, k2_2, c2_2, ok2, rfl, hy2⟩
    replace HW := Kept.mk (HW.out.trans (Below.mono hb2 HW.out.size))
    have HY2 := Kept.mk hy2
    clear hb2 hy2
    have hal2 : Below w2.heap.size w2 ((w2.alloc (.cells #[.bool sa_2, .slice ao_2 ka_2 ca_2, .slice uo_2 ku_2 cu_2] 76)).alloc (.cells #[.bool s1_2, .slice o1_2 k1_2 c1_2, .bool s2_2, .slice o2_2 k2_2 c2_2] 72)) := ((Below.refl _ _).alloc (Nat.le_refl _) _).alloc (by simp) _
    replace HW := Kept.mk (HW.out.trans (Below.mono hal2 HW.out.size))
    have HBa2 : Kept (H3 ((w2.alloc (.cells #[.bool sa_2, .slice ao_2 ka_2 ca_2, .slice uo_2 ku_2 cu_2] 76)).alloc (.cells #[.bool s1_2, .slice o1_2 k1_2 c1_2, .bool s2_2, .slice o2_2 k2_2 c2_2] 72)) w2.heap.size (.bool sa_2) (.slice ao_2 ka_2 ca_2) (.slice uo_2 ku_2 cu_2)) := ⟨(H3.new _ _ _ _ _ rfl).below ((Below.refl _ _).alloc (Nat.le_refl _) _)⟩
    have HBx2 : Kept (H4 ((w2.alloc (.cells #[.bool sa_2, .slice ao_2 ka_2 ca_2, .slice uo_2 ku_2 cu_2] 76)).alloc (.cells #[.bool s1_2, .slice o1_2 k1_2 c1_2, .bool s2_2, .slice o2_2 k2_2 c2_2] 72)) (w2.heap.size + 1) (.bool s1_2) (.slice o1_2 k1_2 c1_2) (.bool s2_2) (.slice o2_2 k2_2 c2_2)) := ⟨H4.new _ _ _ _ _ _ (by simp)⟩
    have HAL2 := Kept.mk hal2
    clear hal2
    clear HBa2 HBx2 HY2 HAL2
    go_wp2_with fail
    refine (frac_any u _ hu).mono ?_
    rintro e w3 ⟨hb3, sa_3, ao_3, uo_3, ka_3, ca_3, ku_3, cu_3, s1_3, s2_3, o1_3, o2_3, k1_3, c1_3, k2_3, c2_3, ok3, rfl, hy3⟩
    replace HW := Kept.mk (HW.out.trans (Below.mono hb3 HW.out.size))
    have HY3 := Kept.mk hy3
    clear hb3 hy3
    have hal3 : Below w3.heap.size w3 ((w3.alloc (.cells #[.bool sa_3, .slice ao_3 ka_3 ca_3, .slice uo_3 ku_3 cu_3] 76)).alloc (.cells #[.bool s1_3, .slice o1_3 k1_3 c1_3, .bool s2_3, .slice o2_3 k2_3 c2_3] 72)) := ((Below.refl _ _).alloc (Nat.le_refl _) _).alloc (by simp) _
    replace HW := Kept.mk (HW.out.trans (Below.mono hal3 HW.out.size))
    have HBa3 : Kept (H3 ((w3.alloc (.cells #[.bool sa_3, .slice ao_3 ka_3 ca_3, .slice uo_3 ku_3 cu_3] 76)).alloc (.cells #[.bool s1_3, .slice o1_3 k1_3 c1_3, .bool s2_3, .slice o2_3 k2_3 c2_3] 72)) w3.heap.size (.bool sa_3) (.slice ao_3 ka_3 ca_3) (.slice uo_3 ku_3 cu_3)) := ⟨(H3.new _ _ _ _ _ rfl).below ((Below.refl _ _).alloc (Nat.le_refl _) _)⟩
    have HBx3 : Kept (H4 ((w3.alloc (.cells #[.bool sa_3, .slice ao_3 ka_3 ca_3, .slice uo_3 ku_3 cu_3] 76)).alloc (.cells #[.bool s1_3, .slice o1_3 k1_3 c1_3, .bool s2_3, .slice o2_3 k2_3 c2_3] 72)) (w3.heap.size + 1) (.bool s1_3) (.slice o1_3 k1_3 c1_3) (.bool s2_3) (.slice o2_3 k2_3 c2_3)) := ⟨H4.new _ _ _ _ _ _ (by simp)⟩
    have HAL3 := Kept.mk hal3
    clear hal3
    clear HBa3 HBx3 HY3 HAL3
    go_wp2_with fail
    refine (awake_any _).mono ?_
    rintro e w4 ⟨hb4, he4⟩
    subst he4
    replace HW := Kept.mk (HW.out.trans (Below.mono hb4 HW.out.size))
    clear hb4 
    go_wp2
    go_ret
    exact ⟨HW.out, rfl⟩
  · skip
    obtain ⟨P1, Q1, hz1, hlo1, hl1, hI1, hZ1⟩ := HY1.out rfl
    have hQ1p : 0 < Q1 := hlo1.1
    have HZ1 := Kept.mk hz1
    have HL1 := Kept.mk hl1
    have HLOQ1 := Kept.mk hlo1
    have HIa := Kept.mk (hI1.below HAL1.out)
    have HIx := Kept.mk (hZ1.below HAL1.out)
    have HBa := HBa1
    have HBx := HBx1
    clear hz1 hlo1 hl1 hI1 hZ1 HBa1 HBx1 HY1 HAL1
    clear HBx HIx
    go_wp2_with fail
    refine (frac_any t _ ht).mono ?_
    rintro e w2 ⟨hb2, sa_2, ao_2, uo_2, ka_2, ca_2, ku_2, cu_2, s1_2, s2_2, o1_2, o2_2, k1_2, c1_2, k2_2, c2_2, ok2, rfl, hy2⟩
    replace HBa := Kept.mk (HBa.out.below hb2)
    replace HIa := Kept.mk (HIa.out.below hb2)
    replace HW := Kept.mk (HW.out.trans (Below.mono hb2 HW.out.size))
    have HY2 := Kept.mk hy2
    clear hb2 hy2
    have hal2 : Below w2.heap.size w2 ((w2.alloc (.cells #[.bool sa_2, .slice ao_2 ka_2 ca_2, .slice uo_2 ku_2 cu_2] 76)).alloc (.cells #[.bool s1_2, .slice o1_2 k1_2 c1_2, .bool s2_2, .slice o2_2 k2_2 c2_2] 72)) := ((Below.refl _ _).alloc (Nat.le_refl _) _).alloc (by simp) _
    replace HBa := Kept.mk (HBa.out.below hal2)
    replace HIa := Kept.mk (HIa.out.below hal2)
    replace HW := Kept.mk (HW.out.trans (Below.mono hal2 HW.out.size))
    have HBa2 : Kept (H3 ((w2.alloc (.cells #[.bool sa_2, .slice ao_2 ka_2 ca_2, .slice uo_2 ku_2 cu_2] 76)).alloc (.cells #[.bool s1_2, .slice o1_2 k1_2 c1_2, .bool s2_2, .slice o2_2 k2_2 c2_2] 72)) w2.heap.size (.bool sa_2) (.slice ao_2 ka_2 ca_2) (.slice uo_2 ku_2 cu_2)) := ⟨(H3.new _ _ _ _ _ rfl).below ((Below.refl _ _).alloc (Nat.le_refl _) _)⟩
    have HBx2 : Kept (H4 ((w2.alloc (.cells #[.bool sa_2, .slice ao_2 ka_2 ca_2, .slice uo_2 ku_2 cu_2] 76)).alloc (.cells #[.bool s1_2, .slice o1_2 k1_2 c1_2, .bool s2_2, .slice o2_2 k2_2 c2_2] 72)) (w2.heap.size + 1) (.bool s1_2) (.slice o1_2 k1_2 c1_2) (.bool s2_2) (.slice o2_2 k2_2 c2_2)) := ⟨H4.new _ _ _ _ _ _ (by simp)⟩
    have HAL2 := Kept.mk hal2
    clear hal2
    cases ok2
    · skip
      clear HBa2 HBx2 HY2 HAL2
      go_wp2_with fail
      refine (frac_any u _ hu).mono ?_
      rintro e w3 ⟨hb3, sa_3, ao_3, uo_3, ka_3, ca_3, ku_3, cu_3, s1_3, s2_3, o1_3, o2_3, k1_3, c1_3, k2_3, c2_3, ok3, rfl, hy3⟩
      replace HBa := Kept.mk (HBa.out.below hb3)
      replace HIa := Kept.mk (HIa.out.below hb3)
      replace HW := Kept.mk (HW.out.trans (Below.mono hb3 HW.out.size))
      have HY3 := Kept.mk hy3
      clear hb3 hy3
      have hal3 : Below w3.heap.size w3 ((w3.alloc (.cells #[.bool sa_3, .slice ao_3 ka_3 ca_3, .slice uo_3 ku_3 cu_3] 76)).alloc (.cells #[.bool s1_3, .slice o1_3 k1_3 c1_3, .bool s2_3, .slice o2_3 k2_3 c2_3] 72)) := ((Below.refl _ _).alloc (Nat.le_refl _) _).alloc (by simp) _
      replace HBa := Kept.mk (HBa.out.below hal3)
      replace HIa := Kept.mk (HIa.out.below hal3)
      replace HW := Kept.mk (HW.out.trans (Below.mono hal3 HW.out.size))
      have HBa3 : Kept (H3 ((w3.alloc (.cells #[.bool sa_3, .slice ao_3 ka_3 ca_3, .slice uo_3 ku_3 cu_3] 76)).alloc (.cells #[.bool s1_3, .slice o1_3 k1_3 c1_3, .bool s2_3, .slice o2_3 k2_3 c2_3] 72)) w3.heap.size (.bool sa_3) (.slice ao_3 ka_3 ca_3) (.slice uo_3 ku_3 cu_3)) := ⟨(H3.new _ _ _ _ _ rfl).below ((Below.refl _ _).alloc (Nat.le_refl _) _)⟩
      have HBx3 : Kept (H4 ((w3.alloc (.cells #[.bool sa_3, .slice ao_3 ka_3 ca_3, .slice uo_3 ku_3 cu_3] 76)).alloc (.cells #[.bool s1_3, .slice o1_3 k1_3 c1_3, .bool s2_3, .slice o2_3 k2_3 c2_3] 72)) (w3.heap.size + 1) (.bool s1_3) (.slice o1_3 k1_3 c1_3) (.bool s2_3) (.slice o2_3 k2_3 c2_3)) := ⟨H4.new _ _ _ _ _ _ (by simp)⟩
      have HAL3 := Kept.mk hal3
      clear hal3
      clear HBa3 HBx3 HY3 HAL3
      go_wp2_with fail
      refine (awake_any _).mono ?_
      rintro e w4 ⟨hb4, he4⟩
      subst he4
      replace HBa := Kept.mk (HBa.out.below hb4)
      replace HIa := Kept.mk (HIa.out.below hb4)
      replace HW := Kept.mk (HW.out.trans (Below.mono hb4 HW.out.size))
      clear hb4 
      go_wp2
      go_ret
      exact ⟨HW.out, rfl⟩
    · skip
      obtain ⟨P2, Q2, hz2, hlo2, hl2, hI2, hZ2⟩ := HY2.out rfl
      have hQ2p : 0 < Q2 := hlo2.1
      have HZ2 := Kept.mk hz2
      have HL2 := Kept.mk hl2
      have HLOQ2 := Kept.mk hlo2
      have HIb := Kept.mk (hI2.below HAL2.out)
      have HIy := Kept.mk (hZ2.below HAL2.out)
      have HBb := HBa2
      have HBy := HBx2
      clear hz2 hlo2 hl2 hI2 hZ2 HBa2 HBx2 HY2 HAL2
      clear HBy HIy
      go_wp2_with fail
      refine (frac_any u _ hu).mono ?_
      rintro e w3 ⟨hb3, sa_3, ao_3, uo_3, ka_3, ca_3, ku_3, cu_3, s1_3, s2_3, o1_3, o2_3, k1_3, c1_3, k2_3, c2_3, ok3, rfl, hy3⟩
      replace HBa := Kept.mk (HBa.out.below hb3)
      replace HIa := Kept.mk (HIa.out.below hb3)
      replace HBb := Kept.mk (HBb.out.below hb3)
      replace HIb := Kept.mk (HIb.out.below hb3)
      replace HW := Kept.mk (HW.out.trans (Below.mono hb3 HW.out.size))
      have HY3 := Kept.mk hy3
      clear hb3 hy3
      have hal3 : Below w3.heap.size w3 ((w3.alloc (.cells #[.bool sa_3, .slice ao_3 ka_3 ca_3, .slice uo_3 ku_3 cu_3] 76)).alloc (.cells #[.bool s1_3, .slice o1_3 k1_3 c1_3, .bool s2_3, .slice o2_3 k2_3 c2_3] 72)) := ((Below.refl _ _).alloc (Nat.le_refl _) _).alloc (by simp) _
      replace HBa := Kept.mk (HBa.out.below hal3)
      replace HIa := Kept.mk (HIa.out.below hal3)
      replace HBb := Kept.mk (HBb.out.below hal3)
      replace HIb := Kept.mk (HIb.out.below hal3)
      replace HW := Kept.mk (HW.out.trans (Below.mono hal3 HW.out.size))
      have HBa3 : Kept (H3 ((w3.alloc (.cells #[.bool sa_3, .slice ao_3 ka_3 ca_3, .slice uo_3 ku_3 cu_3] 76)).alloc (.cells #[.bool s1_3, .slice o1_3 k1_3 c1_3, .bool s2_3, .slice o2_3 k2_3 c2_3] 72)) w3.heap.size (.bool sa_3) (.slice ao_3 ka_3 ca_3) (.slice uo_3 ku_3 cu_3)) := ⟨(H3.new _ _ _ _ _ rfl).below ((Below.refl _ _).alloc (Nat.le_refl _) _)⟩
      have HBx3 : Kept (H4 ((w3.alloc (.cells #[.bool sa_3, .slice ao_3 ka_3 ca_3, .slice uo_3 ku_3 cu_3] 76)).alloc (.cells #[.bool s1_3, .slice o1_3 k1_3 c1_3, .bool s2_3, .slice o2_3 k2_3 c2_3] 72)) (w3.heap.size + 1) (.bool s1_3) (.slice o1_3 k1_3 c1_3) (.bool s2_3) (.slice o2_3 k2_3 c2_3)) := ⟨H4.new _ _ _ _ _ _ (by simp)⟩
      have HAL3 := Kept.mk hal3
      clear hal3
      cases ok3
      · skip
        clear HBa3 HBx3 HY3 HAL3
        go_wp2_with fail
        refine (awake_any _).mono ?_
        rintro e w4 ⟨hb4, he4⟩
        subst he4
        replace HBa := Kept.mk (HBa.out.below hb4)
        replace HIa := Kept.mk (HIa.out.below hb4)
        replace HBb := Kept.mk (HBb.out.below hb4)
        replace HIb := Kept.mk (HIb.out.below hb4)
        replace HW := Kept.mk (HW.out.trans (Below.mono hb4 HW.out.size))
        clear hb4 
        go_wp2
        go_ret
        exact ⟨HW.out, rfl⟩
      · skip
        obtain ⟨P3, Q3, hz3, hlo3, hl3, hI3, hZ3⟩ := HY3.out rfl
        have hQ3p : 0 < Q3 := hlo3.1
        have HZ3 := Kept.mk hz3
        have HL3 := Kept.mk hl3
        have HLOQ3 := Kept.mk hlo3
        have HIc := Kept.mk (hI3.below HAL3.out)
        have HIz := Kept.mk (hZ3.below HAL3.out)
        have HBc := HBa3
        have HBz := HBx3
        clear hz3 hlo3 hl3 hI3 hZ3 HBa3 HBx3 HY3 HAL3
        clear HBz HIz
        by_cases hlen : (500 : Int) < (s.size : Int) + t.size + u.size
        · skip
          have hd5 : decide ((500 : Int) < (s.size : Int) + t.size + u.size) = true := decide_eq_true hlen
          go_wp2_with fail
          refine (awake_any _).mono ?_
          rintro e w4 ⟨hb4, he4⟩
          subst he4
          replace HBa := Kept.mk (HBa.out.below hb4)
          replace HIa := Kept.mk (HIa.out.below hb4)
          replace HBb := Kept.mk (HBb.out.below hb4)
          replace HIb := Kept.mk (HIb.out.below hb4)
          replace HBc := Kept.mk (HBc.out.below hb4)
          replace HIc := Kept.mk (HIc.out.below hb4)
          replace HW := Kept.mk (HW.out.trans (Below.mono hb4 HW.out.size))
          clear hb4 
          go_wp2
          go_ret
          exact ⟨HW.out, rfl⟩
        · skip
          have hd5 : decide ((500 : Int) < (s.size : Int) + t.size + u.size) = false := decide_eq_false hlen
          obtain ⟨hp1, hq1⟩ := decR_sz hQ1p (by rw [← HZ1.out]; exact HL1.out) (by decide)
          obtain ⟨hp2, hq2⟩ := decR_sz hQ2p (by rw [← HZ2.out]; exact HL2.out) (by decide)
          obtain ⟨hp3, hq3⟩ := decR_sz hQ3p (by rw [← HZ3.out]; exact HL3.out) (by decide)
          have z1 : Q1 ≠ 0 := by omega
          have z2 : Q2 ≠ 0 := by omega
          have z3 : Q3 ≠ 0 := by omega
          have d23 := Int.mul_ne_zero z2 z3
          have d12 := Int.mul_ne_zero z1 z2
          have d13 := Int.mul_ne_zero z1 z3
          have eB := fr_cross (X := P2 * Q3 + P3 * Q2) d23
          have bB := Sz.fr d23 ((hp2.mul hq3).add (hp3.mul hq2)) ((hq2.mul hq3).mono (show 400 + 400 ≤ 801 by decide))
          have lB := low_fr (a := P2 * Q3 + P3 * Q2) d23
          generalize hBN : frN (P2 * Q3 + P3 * Q2) (Q2 * Q3) = BN at *
          generalize hBD : frD (P2 * Q3 + P3 * Q2) (Q2 * Q3) = BD at *
          have hBDp := lB.1
          have dP : Q1 * BD ≠ 0 := Int.mul_ne_zero z1 (by omega)
          have eP := fr_cross (X := P1 * BN) dP
          have bP := Sz.fr dP (hp1.mul bB.1) (hq1.mul bB.2)
          have lP := low_fr (a := P1 * BN) dP
          generalize hPN : frN (P1 * BN) (Q1 * BD) = PN at *
          generalize hPD : frD (P1 * BN) (Q1 * BD) = PD at *
          have hPDp := lP.1
          have eA := fr_cross (X := P1 * P2) d12
          have bA := Sz.fr d12 (hp1.mul hp2) (hq1.mul hq2)
          have lA := low_fr (a := P1 * P2) d12
          generalize hAN : frN (P1 * P2) (Q1 * Q2) = AN at *
          generalize hAD : frD (P1 * P2) (Q1 * Q2) = AD at *
          have hADp := lA.1
          have eC := fr_cross (X := P1 * P3) d13
          have bC := Sz.fr d13 (hp1.mul hp3) (hq1.mul hq3)
          have lC := low_fr (a := P1 * P3) d13
          generalize hCN : frN (P1 * P3) (Q1 * Q3) = CN at *
          generalize hCD : frD (P1 * P3) (Q1 * Q3) = CD at *
          have hCDp := lC.1
          have dS : AD * CD ≠ 0 := Int.mul_ne_zero (by omega) (by omega)
          obtain ⟨hSN, hSD⟩ := fr_to dS lP (fld_dist z1 z2 z3 (by omega) eB eP eA eC)
          have HLP := Kept.mk lP
          have HSB : Kept (smR (frN (P2 * Q3 + P3 * Q2) (Q2 * Q3)) (frD (P2 * Q3 + P3 * Q2) (Q2 * Q3)) = true) := ⟨by rw [hBN, hBD]; exact smR_sz bB.1 bB.2 hBDp (by decide)⟩
          have HSP : Kept (smR (frN (P1 * BN) (Q1 * BD)) (frD (P1 * BN) (Q1 * BD)) = true) := ⟨by rw [hPN, hPD]; exact smR_sz bP.1 bP.2 hPDp (by decide)⟩
          have HSA : Kept (smR (frN (P1 * P2) (Q1 * Q2)) (frD (P1 * P2) (Q1 * Q2)) = true) := ⟨by rw [hAN, hAD]; exact smR_sz bA.1 bA.2 hADp (by decide)⟩
          have HSC : Kept (smR (frN (P1 * P3) (Q1 * Q3)) (frD (P1 * P3) (Q1 * Q3)) = true) := ⟨by rw [hCN, hCD]; exact smR_sz bC.1 bC.2 hCDp (by decide)⟩
          have HSS : Kept (smR (frN (AN * CD + CN * AD) (AD * CD)) (frD (AN * CD + CN * AD) (AD * CD)) = true) := ⟨by rw [hSN, hSD]; exact smR_sz bP.1 bP.2 hPDp (by decide)⟩
          have HQV : Kept (P2 ≠ 0 → frN (AN * Q2) (AD * P2) = P1 ∧ frD (AN * Q2) (AD * P2) = Q1 ∧ smR (frN (AN * Q2) (AD * P2)) (frD (AN * Q2) (AD * P2)) = true) := ⟨fun h => by
            have hc := fr_to (Int.mul_ne_zero (show AD ≠ 0 by omega) h) HLOQ1.out (fld_quo eA)
            exact ⟨hc.1, hc.2, by rw [hc.1, hc.2]; exact smR_sz hp1 hq1 hQ1p (by decide)⟩⟩
          have HRV : Kept (P2 ≠ 0 → smR (frN (1 * Q2) (1 * P2)) (frD (1 * Q2) (1 * P2)) = true) := ⟨fun h => smR_fr (by omega) (by rw [Int.one_mul]; exact hq2) (by rw [Int.one_mul]; exact hp2) (by decide)⟩
          have HBN := Kept.mk hBN
          have HBD := Kept.mk hBD
          have HPN := Kept.mk hPN
          have HPD := Kept.mk hPD
          have HAN := Kept.mk hAN
          have HAD := Kept.mk hAD
          have HCN := Kept.mk hCN
          have HCD := Kept.mk hCD
          have HSN := Kept.mk hSN
          have HSD := Kept.mk hSD
          obtain ⟨σ, hσ⟩ : ∃ σ, Dg.sg (P1 * Q2) (P2 * Q1) = σ := ⟨_, rfl⟩
          have HSG := Kept.mk hσ
          clear hp1 hq1 hp2 hq2 hp3 hq3 z1 z3 d23 d12 d13 eB bB lB eP bP lP eA bA lA eC bC lC dP dS hBN hBD hPN hPD hAN hAD hCN hCD hSN hSD hσ
          obtain ⟨p5_0b, p5_1b, p5_2b, -⟩ := three_cells (HBb.out)
          obtain ⟨p6_0c, p6_1c, p6_2c, -⟩ := three_cells (HBc.out)
          go_wp2_with fail
          have hc4 := radd_any HIb.out HIc.out hQ2p hQ3p (by decide) (by decide) HSB.out
          rw [HBN.out, HBD.out] at hc4
          refine hc4.mono ?_
          clear hc4
          rintro e w4 ⟨hb4, v4, rfl, hR4⟩
          obtain ⟨s4, o4, k4, c4, u4, j4, d4, rfl, g1, g2, g3, g4⟩ := hR4.form
          clear g1 g2 g3 g4
          replace HBa := Kept.mk (HBa.out.below hb4)
          replace HIa := Kept.mk (HIa.out.below hb4)
          replace HBb := Kept.mk (HBb.out.below hb4)
          replace HIb := Kept.mk (HIb.out.below hb4)
          replace HBc := Kept.mk (HBc.out.below hb4)
          replace HIc := Kept.mk (HIc.out.below hb4)
          replace HW := Kept.mk (HW.out.trans (Below.mono hb4 HW.out.size))
          clear hb4 p5_0b p5_1b p5_2b p6_0c p6_1c p6_2c
          have hal7 : Below w4.heap.size w4 (w4.alloc (.cells #[.bool s4, .slice o4 k4 c4, .slice u4 j4 d4] 76)) := (Below.refl _ _).alloc (Nat.le_refl _) _
          replace HBa := Kept.mk (HBa.out.below hal7)
          replace HIa := Kept.mk (HIa.out.below hal7)
          replace HBb := Kept.mk (HBb.out.below hal7)
          replace HIb := Kept.mk (HIb.out.below hal7)
          replace HBc := Kept.mk (HBc.out.below hal7)
          replace HIc := Kept.mk (HIc.out.below hal7)
          replace HW := Kept.mk (HW.out.trans (Below.mono hal7 HW.out.size))
          have HBbc : Kept (H3 (w4.alloc (.cells #[.bool s4, .slice o4 k4 c4, .slice u4 j4 d4] 76)) w4.heap.size (.bool s4) (.slice o4 k4 c4) (.slice u4 j4 d4)) := ⟨H3.new _ _ _ _ _ rfl⟩
          have HIbc : Kept (RatV 82002 (w4.alloc (.cells #[.bool s4, .slice o4 k4 c4, .slice u4 j4 d4] 76)) (.agg #[.bool s4, .slice o4 k4 c4, .slice u4 j4 d4]) (BN) (BD)) := ⟨hR4.below hal7⟩
          clear hal7 hR4
          obtain ⟨p9_0a, p9_1a, p9_2a, -⟩ := three_cells (HBa.out)
          obtain ⟨p10_0bc, p10_1bc, p10_2bc, -⟩ := three_cells (HBbc.out)
          go_wp2_with fail
          have hc8 := rmul_any HIa.out HIbc.out hQ1p hBDp (by decide) (by decide) HSP.out
          rw [HPN.out, HPD.out] at hc8
          refine hc8.mono ?_
          clear hc8
          rintro e w8 ⟨hb8, v8, rfl, hR8⟩
          obtain ⟨s8, o8, k8, c8, u8, j8, d8, rfl, g1, g2, g3, g4⟩ := hR8.form
          clear g1 g2 g3 g4
          replace HBa := Kept.mk (HBa.out.below hb8)
          replace HIa := Kept.mk (HIa.out.below hb8)
          replace HBb := Kept.mk (HBb.out.below hb8)
          replace HIb := Kept.mk (HIb.out.below hb8)
          replace HBc := Kept.mk (HBc.out.below hb8)
          replace HIc := Kept.mk (HIc.out.below hb8)
          replace HBbc := Kept.mk (HBbc.out.below hb8)
          replace HIbc := Kept.mk (HIbc.out.below hb8)
          replace HW := Kept.mk (HW.out.trans (Below.mono hb8 HW.out.size))
          clear hb8 p9_0a p9_1a p9_2a p10_0bc p10_1bc p10_2bc
          have hal11 : Below w8.heap.size w8 (w8.alloc (.cells #[.bool s8, .slice o8 k8 c8, .slice u8 j8 d8] 76)) := (Below.refl _ _).alloc (Nat.le_refl _) _
          replace HBa := Kept.mk (HBa.out.below hal11)
          replace HIa := Kept.mk (HIa.out.below hal11)
          replace HBb := Kept.mk (HBb.out.below hal11)
          replace HIb := Kept.mk (HIb.out.below hal11)
          replace HBc := Kept.mk (HBc.out.below hal11)
          replace HIc := Kept.mk (HIc.out.below hal11)
          replace HBbc := Kept.mk (HBbc.out.below hal11)
          replace HIbc := Kept.mk (HIbc.out.below hal11)
          replace HW := Kept.mk (HW.out.trans (Below.mono hal11 HW.out.size))
          have HBp : Kept (H3 (w8.alloc (.cells #[.bool s8, .slice o8 k8 c8, .slice u8 j8 d8] 76)) w8.heap.size (.bool s8) (.slice o8 k8 c8) (.slice u8 j8 d8)) := ⟨H3.new _ _ _ _ _ rfl⟩
          have HIp : Kept (RatV 123004 (w8.alloc (.cells #[.bool s8, .slice o8 k8 c8, .slice u8 j8 d8] 76)) (.agg #[.bool s8, .slice o8 k8 c8, .slice u8 j8 d8]) (PN) (PD)) := ⟨hR8.below hal11⟩
          clear hal11 hR8
          obtain ⟨p13_0a, p13_1a, p13_2a, -⟩ := three_cells (HBa.out)
          obtain ⟨p14_0b, p14_1b, p14_2b, -⟩ := three_cells (HBb.out)
          go_wp2_with fail
          have hc12 := rmul_any HIa.out HIb.out hQ1p hQ2p (by decide) (by decide) HSA.out
          rw [HAN.out, HAD.out] at hc12
          refine hc12.mono ?_
          clear hc12
          rintro e w12 ⟨hb12, v12, rfl, hR12⟩
          obtain ⟨s12, o12, k12, c12, u12, j12, d12, rfl, g1, g2, g3, g4⟩ := hR12.form
          clear g1 g2 g3 g4
          replace HBa := Kept.mk (HBa.out.below hb12)
          replace HIa := Kept.mk (HIa.out.below hb12)
          replace HBb := Kept.mk (HBb.out.below hb12)
          replace HIb := Kept.mk (HIb.out.below hb12)
          replace HBc := Kept.mk (HBc.out.below hb12)
          replace HIc := Kept.mk (HIc.out.below hb12)
          replace HBbc := Kept.mk (HBbc.out.below hb12)
          replace HIbc := Kept.mk (HIbc.out.below hb12)
          replace HBp := Kept.mk (HBp.out.below hb12)
          replace HIp := Kept.mk (HIp.out.below hb12)
          replace HW := Kept.mk (HW.out.trans (Below.mono hb12 HW.out.size))
          clear hb12 p13_0a p13_1a p13_2a p14_0b p14_1b p14_2b
          have hal15 : Below w12.heap.size w12 (w12.alloc (.cells #[.bool s12, .slice o12 k12 c12, .slice u12 j12 d12] 76)) := (Below.refl _ _).alloc (Nat.le_refl _) _
          replace HBa := Kept.mk (HBa.out.below hal15)
          replace HIa := Kept.mk (HIa.out.below hal15)
          replace HBb := Kept.mk (HBb.out.below hal15)
          replace HIb := Kept.mk (HIb.out.below hal15)
          replace HBc := Kept.mk (HBc.out.below hal15)
          replace HIc := Kept.mk (HIc.out.below hal15)
          replace HBbc := Kept.mk (HBbc.out.below hal15)
          replace HIbc := Kept.mk (HIbc.out.below hal15)
          replace HBp := Kept.mk (HBp.out.below hal15)
          replace HIp := Kept.mk (HIp.out.below hal15)
          replace HW := Kept.mk (HW.out.trans (Below.mono hal15 HW.out.size))
          have HBab : Kept (H3 (w12.alloc (.cells #[.bool s12, .slice o12 k12 c12, .slice u12 j12 d12] 76)) w12.heap.size (.bool s12) (.slice o12 k12 c12) (.slice u12 j12 d12)) := ⟨H3.new _ _ _ _ _ rfl⟩
          have HIab : Kept (RatV 82002 (w12.alloc (.cells #[.bool s12, .slice o12 k12 c12, .slice u12 j12 d12] 76)) (.agg #[.bool s12, .slice o12 k12 c12, .slice u12 j12 d12]) (AN) (AD)) := ⟨hR12.below hal15⟩
          clear hal15 hR12
          obtain ⟨p17_0a, p17_1a, p17_2a, -⟩ := three_cells (HBa.out)
          obtain ⟨p18_0c, p18_1c, p18_2c, -⟩ := three_cells (HBc.out)
          go_wp2_with fail
          have hc16 := rmul_any HIa.out HIc.out hQ1p hQ3p (by decide) (by decide) HSC.out
          rw [HCN.out, HCD.out] at hc16
          refine hc16.mono ?_
          clear hc16
          rintro e w16 ⟨hb16, v16, rfl, hR16⟩
          obtain ⟨s16, o16, k16, c16, u16, j16, d16, rfl, g1, g2, g3, g4⟩ := hR16.form
          clear g1 g2 g3 g4
          replace HBa := Kept.mk (HBa.out.below hb16)
          replace HIa := Kept.mk (HIa.out.below hb16)
          replace HBb := Kept.mk (HBb.out.below hb16)
          replace HIb := Kept.mk (HIb.out.below hb16)
          replace HBc := Kept.mk (HBc.out.below hb16)
          replace HIc := Kept.mk (HIc.out.below hb16)
          replace HBbc := Kept.mk (HBbc.out.below hb16)
          replace HIbc := Kept.mk (HIbc.out.below hb16)
          replace HBp := Kept.mk (HBp.out.below hb16)
          replace HIp := Kept.mk (HIp.out.below hb16)
          replace HBab := Kept.mk (HBab.out.below hb16)
          replace HIab := Kept.mk (HIab.out.below hb16)
          replace HW := Kept.mk (HW.out.trans (Below.mono hb16 HW.out.size))
          clear hb16 p17_0a p17_1a p17_2a p18_0c p18_1c p18_2c
          have hal19 : Below w16.heap.size w16 (w16.alloc (.cells #[.bool s16, .slice o16 k16 c16, .slice u16 j16 d16] 76)) := (Below.refl _ _).alloc (Nat.le_refl _) _
          replace HBa := Kept.mk (HBa.out.below hal19)
          replace HIa := Kept.mk (HIa.out.below hal19)
          replace HBb := Kept.mk (HBb.out.below hal19)
          replace HIb := Kept.mk (HIb.out.below hal19)
          replace HBc := Kept.mk (HBc.out.below hal19)
          replace HIc := Kept.mk (HIc.out.below hal19)
          replace HBbc := Kept.mk (HBbc.out.below hal19)
          replace HIbc := Kept.mk (HIbc.out.below hal19)
          replace HBp := Kept.mk (HBp.out.below hal19)
          replace HIp := Kept.mk (HIp.out.below hal19)
          replace HBab := Kept.mk (HBab.out.below hal19)
          replace HIab := Kept.mk (HIab.out.below hal19)
          replace HW := Kept.mk (HW.out.trans (Below.mono hal19 HW.out.size))
          have HBac : Kept (H3 (w16.alloc (.cells #[.bool s16, .slice o16 k16 c16, .slice u16 j16 d16] 76)) w16.heap.size (.bool s16) (.slice o16 k16 c16) (.slice u16 j16 d16)) := ⟨H3.new _ _ _ _ _ rfl⟩
          have HIac : Kept (RatV 82002 (w16.alloc (.cells #[.bool s16, .slice o16 k16 c16, .slice u16 j16 d16] 76)) (.agg #[.bool s16, .slice o16 k16 c16, .slice u16 j16 d16]) (CN) (CD)) := ⟨hR16.below hal19⟩
          clear hal19 hR16
          obtain ⟨p21_0ab, p21_1ab, p21_2ab, -⟩ := three_cells (HBab.out)
          obtain ⟨p22_0ac, p22_1ac, p22_2ac, -⟩ := three_cells (HBac.out)
          go_wp2_with fail
          have hc20 := radd_any HIab.out HIac.out hADp hCDp (by decide) (by decide) HSS.out
          rw [HSN.out, HSD.out] at hc20
          refine hc20.mono ?_
          clear hc20
          rintro e w20 ⟨hb20, v20, rfl, hR20⟩
          obtain ⟨s20, o20, k20, c20, u20, j20, d20, rfl, g1, g2, g3, g4⟩ := hR20.form
          clear g1 g2 g3 g4
          replace HBa := Kept.mk (HBa.out.below hb20)
          replace HIa := Kept.mk (HIa.out.below hb20)
          replace HBb := Kept.mk (HBb.out.below hb20)
          replace HIb := Kept.mk (HIb.out.below hb20)
          replace HBc := Kept.mk (HBc.out.below hb20)
          replace HIc := Kept.mk (HIc.out.below hb20)
          replace HBbc := Kept.mk (HBbc.out.below hb20)
          replace HIbc := Kept.mk (HIbc.out.below hb20)
          replace HBp := Kept.mk (HBp.out.below hb20)
          replace HIp := Kept.mk (HIp.out.below hb20)
          replace HBab := Kept.mk (HBab.out.below hb20)
          replace HIab := Kept.mk (HIab.out.below hb20)
          replace HBac := Kept.mk (HBac.out.below hb20)
          replace HIac := Kept.mk (HIac.out.below hb20)
          replace HW := Kept.mk (HW.out.trans (Below.mono hb20 HW.out.size))
          clear hb20 p21_0ab p21_1ab p21_2ab p22_0ac p22_1ac p22_2ac
          have hal23 : Below w20.heap.size w20 (w20.alloc (.cells #[.bool s20, .slice o20 k20 c20, .slice u20 j20 d20] 76)) := (Below.refl _ _).alloc (Nat.le_refl _) _
          replace HBa := Kept.mk (HBa.out.below hal23)
          replace HIa := Kept.mk (HIa.out.below hal23)
          replace HBb := Kept.mk (HBb.out.below hal23)
          replace HIb := Kept.mk (HIb.out.below hal23)
          replace HBc := Kept.mk (HBc.out.below hal23)
          replace HIc := Kept.mk (HIc.out.below hal23)
          replace HBbc := Kept.mk (HBbc.out.below hal23)
          replace HIbc := Kept.mk (HIbc.out.below hal23)
          replace HBp := Kept.mk (HBp.out.below hal23)
          replace HIp := Kept.mk (HIp.out.below hal23)
          replace HBab := Kept.mk (HBab.out.below hal23)
          replace HIab := Kept.mk (HIab.out.below hal23)
          replace HBac := Kept.mk (HBac.out.below hal23)
          replace HIac := Kept.mk (HIac.out.below hal23)
          replace HW := Kept.mk (HW.out.trans (Below.mono hal23 HW.out.size))
          have HBsm : Kept (H3 (w20.alloc (.cells #[.bool s20, .slice o20 k20 c20, .slice u20 j20 d20] 76)) w20.heap.size (.bool s20) (.slice o20 k20 c20) (.slice u20 j20 d20)) := ⟨H3.new _ _ _ _ _ rfl⟩
          have HIsm : Kept (RatV 164006 (w20.alloc (.cells #[.bool s20, .slice o20 k20 c20, .slice u20 j20 d20] 76)) (.agg #[.bool s20, .slice o20 k20 c20, .slice u20 j20 d20]) (PN) (PD)) := ⟨hR20.below hal23⟩
          clear hal23 hR20
          clear HBbc HIbc
          clear HBac HIac
          clear HBc HIc
          go_wp2_with fail
          generalize w20.alloc (.cells #[.bool s20, .slice o20 k20 c20, .slice u20 j20 d20] 76) = ws at *
          obtain ⟨l, hl⟩ : ∃ l, l = decR PN PD := ⟨_, rfl⟩
          have HLL := Kept.mk hl
          clear hl
          have t1 : ((⟨l.toArray⟩ : ByteArray).toList == (⟨l.toArray⟩ : ByteArray).toList) = true := by simp
          have t2 : ((⟨l.toArray⟩ : ByteArray).toList != (⟨l.toArray⟩ : ByteArray).toList) = false := by simp
          have HC1 : Kept (∀ W, Below ws.heap.size ws W → Calls Tryz.prog 74 #[(.agg #[.bool s8, .slice o8 k8 c8, .slice u8 j8 d8]), (.agg #[.bool s20, .slice o20 k20 c20, .slice u20 j20 d20])] W (RetV W (.int .i64 0))) := ⟨fun W h => by have hc := rcmp_any (HIp.out.below h) (HIsm.out.below h) hPDp hPDp (by decide) (by decide); rw [Dg.sg_eq] at hc; exact hc⟩
          have HS1 : Kept (∀ W, Below ws.heap.size ws W → Calls Tryz.prog 56 #[(.agg #[.bool s8, .slice o8 k8 c8, .slice u8 j8 d8])] W (RetV W (.string ⟨l.toArray⟩))) := ⟨fun W h => by rw [HLL.out]; exact rstring_any (HIp.out.below h) hPDp (by decide)⟩
          have HS2 : Kept (∀ W, Below ws.heap.size ws W → Calls Tryz.prog 56 #[(.agg #[.bool s20, .slice o20 k20 c20, .slice u20 j20 d20])] W (RetV W (.string ⟨l.toArray⟩))) := ⟨fun W h => by rw [HLL.out]; exact rstring_any (HIsm.out.below h) hPDp (by decide)⟩
          obtain ⟨ii0p, ii1p, ii2p, -⟩ := three_cells (HBp.out)
          obtain ⟨ii0sm, ii1sm, ii2sm, -⟩ := three_cells (HBsm.out)
          refine wp_region_held_drew (S := fun w' => w'.cell? ⟨w8.heap.size, 0, none⟩ = some (.bool s8) ∧ w'.cell? ⟨w8.heap.size, 1, none⟩ = some (.slice o8 k8 c8) ∧ w'.cell? ⟨w8.heap.size, 2, none⟩ = some (.slice u8 j8 d8) ∧ w'.cell? ⟨w20.heap.size, 0, none⟩ = some (.bool s20) ∧ w'.cell? ⟨w20.heap.size, 1, none⟩ = some (.slice o20 k20 c20) ∧ w'.cell? ⟨w20.heap.size, 2, none⟩ = some (.slice u20 j20 d20)) (by kernel_rfl) ?_ (fun hHeld => ?_)
          · exact ⟨ii0p, ii1p, ii2p, ii0sm, ii1sm, ii2sm⟩
          refine wpAnyH_take (i := 0) (v := ?_) rfl (by kernel_rfl) (by kernel_rfl) (by kernel_rfl) (fun _ _ _ h => h) (Or.inl ⟨by rfl, ?_⟩) (by assumption) ?_
          rotate_left
          · (intro w hSw; (try dsimp only at hSw); go_simp; (try with_reducible rfl))
          try simp only [Act.put, List.getElem_toArray, List.getElem_cons_succ, List.getElem_cons_zero, List.setIfInBounds_toArray, List.set_cons_zero, List.set_cons_succ]
          refine wpAnyH_take (i := 1) (v := ?_) rfl (by kernel_rfl) (by kernel_rfl) (by kernel_rfl) (fun _ _ _ h => h) (Or.inl ⟨by rfl, ?_⟩) (by assumption) ?_
          rotate_left
          · (intro w hSw; (try dsimp only at hSw); go_simp; (try with_reducible rfl))
          try simp only [Act.put, List.getElem_toArray, List.getElem_cons_succ, List.getElem_cons_zero, List.setIfInBounds_toArray, List.set_cons_zero, List.set_cons_succ]
          refine wpAnyH_take (i := 2) (v := ?_) rfl (by kernel_rfl) (by kernel_rfl) (by kernel_rfl) (fun _ _ _ h => h) (Or.inl ⟨by rfl, ?_⟩) (by assumption) ?_
          rotate_left
          · (intro w hSw; (try dsimp only at hSw); go_simp; (try with_reducible rfl))
          try simp only [Act.put, List.getElem_toArray, List.getElem_cons_succ, List.getElem_cons_zero, List.setIfInBounds_toArray, List.set_cons_zero, List.set_cons_succ]
          refine wpAnyH_take (i := 3) (v := ?_) rfl (by kernel_rfl) (by kernel_rfl) (by kernel_rfl) (fun _ _ _ h => h) (Or.inl ⟨by rfl, ?_⟩) (by assumption) ?_
          rotate_left
          · (intro w hSw; (try dsimp only at hSw); go_simp; (try with_reducible rfl))
          try simp only [Act.put, List.getElem_toArray, List.getElem_cons_succ, List.getElem_cons_zero, List.setIfInBounds_toArray, List.set_cons_zero, List.set_cons_succ]
          refine wpAnyH_take (i := 4) (v := ?_) rfl (by kernel_rfl) (by kernel_rfl) (by kernel_rfl) (fun _ _ _ h => h) (Or.inl ⟨by rfl, ?_⟩) (by assumption) ?_
          rotate_left
          · (intro w hSw; (try dsimp only at hSw); go_simp; (try with_reducible rfl))
          try simp only [Act.put, List.getElem_toArray, List.getElem_cons_succ, List.getElem_cons_zero, List.setIfInBounds_toArray, List.set_cons_zero, List.set_cons_succ]
          refine wpAnyH_take (i := 5) (v := ?_) rfl (by kernel_rfl) (by kernel_rfl) (by kernel_rfl) (fun _ _ _ h => h) (Or.inl ⟨by rfl, ?_⟩) (by assumption) ?_
          rotate_left
          · (intro w hSw; (try dsimp only at hSw); go_simp; (try with_reducible rfl))
          try simp only [Act.put, List.getElem_toArray, List.getElem_cons_succ, List.getElem_cons_zero, List.setIfInBounds_toArray, List.set_cons_zero, List.set_cons_succ]
          refine wpAnyH_take (i := 6) (v := ?_) rfl (by kernel_rfl) (by kernel_rfl) (by kernel_rfl) (fun _ _ _ h => h) (Or.inl ⟨by rfl, ?_⟩) (by assumption) ?_
          rotate_left
          · (intro w hSw; (try dsimp only at hSw); go_simp; (try with_reducible rfl))
          try simp only [Act.put, List.getElem_toArray, List.getElem_cons_succ, List.getElem_cons_zero, List.setIfInBounds_toArray, List.set_cons_zero, List.set_cons_succ]
          refine wpAnyH_take (i := 7) (v := ?_) rfl (by kernel_rfl) (by kernel_rfl) (by kernel_rfl) (fun _ _ _ h => h) (Or.inl ⟨by rfl, ?_⟩) (by assumption) ?_
          rotate_left
          · (intro w hSw; (try dsimp only at hSw); go_simp; (try with_reducible rfl))
          try simp only [Act.put, List.getElem_toArray, List.getElem_cons_succ, List.getElem_cons_zero, List.setIfInBounds_toArray, List.set_cons_zero, List.set_cons_succ]
          refine wpAnyH_take (i := 8) (v := ?_) rfl (by kernel_rfl) (by kernel_rfl) (by kernel_rfl) (fun _ _ _ h => h) (Or.inl ⟨by rfl, ?_⟩) (by assumption) ?_
          rotate_left
          · (intro w hSw; (try dsimp only at hSw); go_simp; (try with_reducible rfl))
          try simp only [Act.put, List.getElem_toArray, List.getElem_cons_succ, List.getElem_cons_zero, List.setIfInBounds_toArray, List.set_cons_zero, List.set_cons_succ]
          refine wpAnyH_take (i := 9) (v := ?_) rfl (by kernel_rfl) (by kernel_rfl) (by kernel_rfl) (fun _ _ _ h => h) (Or.inl ⟨by rfl, ?_⟩) (by assumption) ?_
          rotate_left
          · (intro w hSw; (try dsimp only at hSw); go_simp; (try with_reducible rfl))
          try simp only [Act.put, List.getElem_toArray, List.getElem_cons_succ, List.getElem_cons_zero, List.setIfInBounds_toArray, List.set_cons_zero, List.set_cons_succ]
          refine wpAnyH_take (i := 10) (v := ?_) rfl (by kernel_rfl) (by kernel_rfl) (by kernel_rfl) (fun _ _ _ h => h) (Or.inl ⟨by rfl, ?_⟩) (by assumption) ?_
          rotate_left
          · (intro w hSw; (try dsimp only at hSw); go_simp; (try with_reducible rfl))
          try simp only [Act.put, List.getElem_toArray, List.getElem_cons_succ, List.getElem_cons_zero, List.setIfInBounds_toArray, List.set_cons_zero, List.set_cons_succ]
          refine wpAnyH_take (i := 11) (v := ?_) rfl (by kernel_rfl) (by kernel_rfl) (by kernel_rfl) (fun _ _ _ h => h) (Or.inl ⟨by rfl, ?_⟩) (by assumption) ?_
          rotate_left
          · (intro w hSw; (try dsimp only at hSw); go_simp; (try with_reducible rfl))
          try simp only [Act.put, List.getElem_toArray, List.getElem_cons_succ, List.getElem_cons_zero, List.setIfInBounds_toArray, List.set_cons_zero, List.set_cons_succ]
          refine wpAnyH_take (i := 12) (v := ?_) rfl (by kernel_rfl) (by kernel_rfl) (by kernel_rfl) (fun _ _ _ h => h) (Or.inl ⟨by rfl, ?_⟩) (by assumption) ?_
          rotate_left
          · (intro w hSw; (try dsimp only at hSw); go_simp; (try with_reducible rfl))
          try simp only [Act.put, List.getElem_toArray, List.getElem_cons_succ, List.getElem_cons_zero, List.setIfInBounds_toArray, List.set_cons_zero, List.set_cons_succ]
          refine wpAnyH_take (i := 13) (v := ?_) rfl (by kernel_rfl) (by kernel_rfl) (by kernel_rfl) (fun _ _ _ h => h) (Or.inl ⟨by rfl, ?_⟩) (by assumption) ?_
          rotate_left
          · (intro w hSw; (try dsimp only at hSw); go_simp; (try with_reducible rfl))
          try simp only [Act.put, List.getElem_toArray, List.getElem_cons_succ, List.getElem_cons_zero, List.setIfInBounds_toArray, List.set_cons_zero, List.set_cons_succ]
          refine wpAnyH_take (i := 14) (v := ?_) rfl (by kernel_rfl) (by kernel_rfl) (by kernel_rfl) (fun _ _ _ h => h) (Or.inl ⟨by rfl, ?_⟩) (by assumption) ?_
          rotate_left
          · (intro w hSw; (try dsimp only at hSw); go_simp; (try with_reducible rfl))
          try simp only [Act.put, List.getElem_toArray, List.getElem_cons_succ, List.getElem_cons_zero, List.setIfInBounds_toArray, List.set_cons_zero, List.set_cons_succ]
          refine wpAnyH_take (i := 15) (v := ?_) rfl (by kernel_rfl) (by kernel_rfl) (by kernel_rfl) (fun _ _ _ h => h) (Or.inl ⟨by rfl, ?_⟩) (by assumption) ?_
          rotate_left
          · (intro w hSw; (try dsimp only at hSw); go_simp; (try with_reducible rfl))
          try simp only [Act.put, List.getElem_toArray, List.getElem_cons_succ, List.getElem_cons_zero, List.setIfInBounds_toArray, List.set_cons_zero, List.set_cons_succ]
          refine wpAnyH_take (i := 16) (v := ?_) rfl (by kernel_rfl) (by kernel_rfl) (by kernel_rfl) (fun _ _ _ h => h) (Or.inl ⟨by rfl, ?_⟩) (by assumption) ?_
          rotate_left
          · (intro w hSw; (try dsimp only at hSw); go_simp; (try with_reducible rfl))
          try simp only [Act.put, List.getElem_toArray, List.getElem_cons_succ, List.getElem_cons_zero, List.setIfInBounds_toArray, List.set_cons_zero, List.set_cons_succ]
          refine wpAnyH_take (i := 17) (v := ?_) rfl (by kernel_rfl) (by kernel_rfl) (by kernel_rfl) (fun _ _ _ h => h) (Or.inl ⟨by rfl, ?_⟩) (by assumption) ?_
          rotate_left
          · (intro w hSw; (try dsimp only at hSw); go_simp; (try with_reducible rfl))
          try simp only [Act.put, List.getElem_toArray, List.getElem_cons_succ, List.getElem_cons_zero, List.setIfInBounds_toArray, List.set_cons_zero, List.set_cons_succ]
          refine wpAnyH_take (i := 18) (v := ?_) rfl (by kernel_rfl) (by kernel_rfl) (by kernel_rfl) (fun _ _ _ h => h) (Or.inl ⟨by rfl, ?_⟩) (by assumption) ?_
          rotate_left
          · (intro w hSw; (try dsimp only at hSw); go_simp; (try with_reducible rfl))
          try simp only [Act.put, List.getElem_toArray, List.getElem_cons_succ, List.getElem_cons_zero, List.setIfInBounds_toArray, List.set_cons_zero, List.set_cons_succ]
          refine wpAnyH_take (i := 19) (v := ?_) rfl (by kernel_rfl) (by kernel_rfl) (by kernel_rfl) (fun _ _ _ h => h) (Or.inl ⟨by rfl, ?_⟩) (by assumption) ?_
          rotate_left
          · (intro w hSw; (try dsimp only at hSw); go_simp; (try with_reducible rfl))
          try simp only [Act.put, List.getElem_toArray, List.getElem_cons_succ, List.getElem_cons_zero, List.setIfInBounds_toArray, List.set_cons_zero, List.set_cons_succ]
          refine wpAnyH_take (i := 20) (v := ?_) rfl (by kernel_rfl) (by kernel_rfl) (by kernel_rfl) (fun _ _ _ h => h) (Or.inl ⟨by rfl, ?_⟩) (by assumption) ?_
          rotate_left
          · (intro w hSw; (try dsimp only at hSw); go_simp; (try with_reducible rfl))
          try simp only [Act.put, List.getElem_toArray, List.getElem_cons_succ, List.getElem_cons_zero, List.setIfInBounds_toArray, List.set_cons_zero, List.set_cons_succ]
          refine wpAnyH_ready (rs := [21]) (by kernel_rfl) (by simp) ?_
          refine AllReadyH.cons rfl (fun K hK => ?_) AllReadyH.nil
          go_simp
          refine (HC1.out _ ?h1).mono ?_
          case h1 => exact ((Bxs.start ws).drew).1
          rintro e wA1' ⟨hbA1, rfl⟩
          have hyA1 := Bxs.below ((Bxs.start ws).drew) hbA1
          obtain ⟨ja0p, ja1p, ja2p, -⟩ := three_cells (HBp.out.below hyA1.1)
          obtain ⟨ja0sm, ja1sm, ja2sm, -⟩ := three_cells (HBsm.out.below hyA1.1)
          refine hK.out _ _ ?_ (fun hHeld => ?_)
          · exact ⟨ja0p, ja1p, ja2p, ja0sm, ja1sm, ja2sm⟩
          clear hK K
          try simp only [Act.put, List.getElem_toArray, List.getElem_cons_succ, List.getElem_cons_zero, List.setIfInBounds_toArray, List.set_cons_zero, List.set_cons_succ]
          refine wpAnyH_take (i := 22) (v := ?_) rfl (by kernel_rfl) (by kernel_rfl) (by kernel_rfl) (fun _ _ _ h => h) (Or.inl ⟨by rfl, ?_⟩) (by assumption) ?_
          rotate_left
          · (intro w hSw; (try dsimp only at hSw); go_simp; (try with_reducible rfl))
          try simp only [Act.put, List.getElem_toArray, List.getElem_cons_succ, List.getElem_cons_zero, List.setIfInBounds_toArray, List.set_cons_zero, List.set_cons_succ]
          refine wpAnyH_take (i := 23) (v := ?_) rfl (by kernel_rfl) (by kernel_rfl) (by kernel_rfl) (fun _ _ _ h => h) (Or.inl ⟨by rfl, ?_⟩) (by assumption) ?_
          rotate_left
          · (intro w hSw; (try dsimp only at hSw); go_simp; (try with_reducible rfl))
          try simp only [Act.put, List.getElem_toArray, List.getElem_cons_succ, List.getElem_cons_zero, List.setIfInBounds_toArray, List.set_cons_zero, List.set_cons_succ]
          refine wpAnyH_take (i := 24) (v := ?_) rfl (by kernel_rfl) (by kernel_rfl) (by kernel_rfl) (fun _ _ _ h => h) (Or.inl ⟨by rfl, ?_⟩) (by assumption) ?_
          rotate_left
          · (intro w hSw; (try dsimp only at hSw); go_simp; (try with_reducible rfl))
          try simp only [Act.put, List.getElem_toArray, List.getElem_cons_succ, List.getElem_cons_zero, List.setIfInBounds_toArray, List.set_cons_zero, List.set_cons_succ]
          refine wpAnyH_take (i := 25) (v := ?_) rfl (by kernel_rfl) (by kernel_rfl) (by kernel_rfl) (fun _ _ _ h => h) (Or.inl ⟨by rfl, ?_⟩) (by assumption) ?_
          rotate_left
          · (intro w hSw; (try dsimp only at hSw); go_simp; (try with_reducible rfl))
          try simp only [Act.put, List.getElem_toArray, List.getElem_cons_succ, List.getElem_cons_zero, List.setIfInBounds_toArray, List.set_cons_zero, List.set_cons_succ]
          refine wpAnyH_take (i := 27) (v := ?_) rfl (by kernel_rfl) (by kernel_rfl) (by kernel_rfl) (fun _ _ _ h => h) (Or.inl ⟨by rfl, ?_⟩) (by assumption) ?_
          rotate_left
          · (intro w hSw; (try dsimp only at hSw); go_simp; (try with_reducible rfl))
          try simp only [Act.put, List.getElem_toArray, List.getElem_cons_succ, List.getElem_cons_zero, List.setIfInBounds_toArray, List.set_cons_zero, List.set_cons_succ]
          refine wpAnyH_ready (rs := [26]) (by kernel_rfl) (by simp) ?_
          refine AllReadyH.cons rfl (fun K hK => ?_) AllReadyH.nil
          go_simp
          refine (HS1.out _ ?h1).mono ?_
          case h1 => exact hyA1.1
          rintro e wA2' ⟨hbA2, rfl⟩
          have hyA2 := Bxs.below hyA1 hbA2
          obtain ⟨jb0p, jb1p, jb2p, -⟩ := three_cells (HBp.out.below hyA2.1)
          obtain ⟨jb0sm, jb1sm, jb2sm, -⟩ := three_cells (HBsm.out.below hyA2.1)
          refine hK.out _ _ ?_ (fun hHeld => ?_)
          · exact ⟨jb0p, jb1p, jb2p, jb0sm, jb1sm, jb2sm⟩
          clear hK K
          try simp only [Act.put, List.getElem_toArray, List.getElem_cons_succ, List.getElem_cons_zero, List.setIfInBounds_toArray, List.set_cons_zero, List.set_cons_succ]
          refine wpAnyH_ready (rs := [28]) (by kernel_rfl) (by simp) ?_
          refine AllReadyH.cons rfl (fun K hK => ?_) AllReadyH.nil
          go_simp
          refine (HS2.out _ ?h1).mono ?_
          case h1 => exact hyA2.1
          rintro e wA3' ⟨hbA3, rfl⟩
          have hyA3 := Bxs.below hyA2 hbA3
          obtain ⟨jc0p, jc1p, jc2p, -⟩ := three_cells (HBp.out.below hyA3.1)
          obtain ⟨jc0sm, jc1sm, jc2sm, -⟩ := three_cells (HBsm.out.below hyA3.1)
          refine hK.out _ _ ?_ (fun hHeld => ?_)
          · exact ⟨jc0p, jc1p, jc2p, jc0sm, jc1sm, jc2sm⟩
          clear hK K
          try simp only [Act.put, List.getElem_toArray, List.getElem_cons_succ, List.getElem_cons_zero, List.setIfInBounds_toArray, List.set_cons_zero, List.set_cons_succ]
          refine wpAnyH_take (i := 29) (v := ?_) rfl (by kernel_rfl) (by kernel_rfl) (by kernel_rfl) (fun _ _ _ h => h) (Or.inl ⟨by rfl, ?_⟩) (by assumption) ?_
          rotate_left
          · (intro w hSw; (try dsimp only at hSw); go_simp; (try with_reducible rfl))
          try simp only [Act.put, List.getElem_toArray, List.getElem_cons_succ, List.getElem_cons_zero, List.setIfInBounds_toArray, List.set_cons_zero, List.set_cons_succ]
          refine wpAnyH_take (i := 30) (v := ?_) rfl (by kernel_rfl) (by kernel_rfl) (by kernel_rfl) (fun _ _ _ h => h) (Or.inl ⟨by rfl, ?_⟩) (by assumption) ?_
          rotate_left
          · (intro w hSw; (try dsimp only at hSw); go_simp; (try with_reducible rfl))
          try simp only [Act.put, List.getElem_toArray, List.getElem_cons_succ, List.getElem_cons_zero, List.setIfInBounds_toArray, List.set_cons_zero, List.set_cons_succ]
          refine wpAnyH_done (by kernel_rfl) ?_ _
          have hmv := hyA3.1
          clear ii0p ii1p ii2p ii0sm ii1sm ii2sm ja0p ja1p ja2p ja0sm ja1sm ja2sm jb0p jb1p jb2p jb0sm jb1sm jb2sm jc0p jc1p jc2p jc0sm jc1sm jc2sm
          replace HBa := Kept.mk (HBa.out.below hmv)
          replace HIa := Kept.mk (HIa.out.below hmv)
          replace HBb := Kept.mk (HBb.out.below hmv)
          replace HIb := Kept.mk (HIb.out.below hmv)
          replace HBp := Kept.mk (HBp.out.below hmv)
          replace HIp := Kept.mk (HIp.out.below hmv)
          replace HBab := Kept.mk (HBab.out.below hmv)
          replace HIab := Kept.mk (HIab.out.below hmv)
          replace HBsm := Kept.mk (HBsm.out.below hmv)
          replace HIsm := Kept.mk (HIsm.out.below hmv)
          replace HW := Kept.mk (HW.out.trans (Below.mono hmv HW.out.size))
          clear hmv HC1 HS1 HS2 t1 t2 HLL HBp HIp HBsm HIsm hyA3 hbA3 hyA2 hbA2 hyA1 hbA1
          by_cases hz2 : P2 = 0
          · skip
            obtain ⟨p25_0b, p25_1b, p25_2b, -⟩ := three_cells (HBb.out)
            go_wp2_with fail
            refine (rsign_any HIb.out).mono ?_
            rintro e w24 ⟨hb24, he24⟩
            rw [hz2, Dg.sg_eq] at he24
            subst he24
            replace HBa := Kept.mk (HBa.out.below hb24)
            replace HIa := Kept.mk (HIa.out.below hb24)
            replace HBb := Kept.mk (HBb.out.below hb24)
            replace HIb := Kept.mk (HIb.out.below hb24)
            replace HBab := Kept.mk (HBab.out.below hb24)
            replace HIab := Kept.mk (HIab.out.below hb24)
            replace HW := Kept.mk (HW.out.trans (Below.mono hb24 HW.out.size))
            clear hb24 p25_0b p25_1b p25_2b
            have HZ2 := Kept.mk hz2
            clear hz2
            go_wp2_with fail
            generalize w24 = wz at *
            have hss : (σ == σ) = true := by simp
            have HCA : Kept (∀ W, Below wz.heap.size wz W → Calls Tryz.prog 74 #[(.agg #[.bool sa_1, .slice ao_1 ka_1 ca_1, .slice uo_1 ku_1 cu_1]), (.agg #[.bool sa_2, .slice ao_2 ka_2 ca_2, .slice uo_2 ku_2 cu_2])] W (RetV W (.int .i64 σ))) := ⟨fun W h => by have hc := rcmp_any (HIa.out.below h) (HIb.out.below h) hQ1p hQ2p (by decide) (by decide); rw [HSG.out] at hc; exact hc⟩
            have HNB : Kept (∀ W, Below wz.heap.size wz W → Calls Tryz.prog 62 #[(.agg #[.bool sa_2, .slice ao_2 ka_2 ca_2, .slice uo_2 ku_2 cu_2])] W (RetRat 41000 W (-P2) Q2)) := ⟨fun W h => rneg_any (HIb.out.below h) (by decide)⟩
            have HNA : Kept (∀ W, Below wz.heap.size wz W → Calls Tryz.prog 62 #[(.agg #[.bool sa_1, .slice ao_1 ka_1 ca_1, .slice uo_1 ku_1 cu_1])] W (RetRat 41000 W (-P1) Q1)) := ⟨fun W h => rneg_any (HIa.out.below h) (by decide)⟩
            have HC2 : Kept (∀ W u v, Below wz.heap.size wz W → RatV 41000 W u (-P2) Q2 → RatV 41000 W v (-P1) Q1 → Calls Tryz.prog 74 #[u, v] W (RetV W (.int .i64 σ))) := ⟨fun W u v _ hu hv => by have hc := rcmp_any hu hv hQ2p hQ1p (by decide) (by decide); rw [sg_neg2, HSG.out] at hc; exact hc⟩
            obtain ⟨ii0a, ii1a, ii2a, -⟩ := three_cells (HBa.out)
            obtain ⟨ii0b, ii1b, ii2b, -⟩ := three_cells (HBb.out)
            refine wp_region_held_drew (S := fun w' => w'.cell? ⟨w1.heap.size, 0, none⟩ = some (.bool sa_1) ∧ w'.cell? ⟨w1.heap.size, 1, none⟩ = some (.slice ao_1 ka_1 ca_1) ∧ w'.cell? ⟨w1.heap.size, 2, none⟩ = some (.slice uo_1 ku_1 cu_1) ∧ w'.cell? ⟨w2.heap.size, 0, none⟩ = some (.bool sa_2) ∧ w'.cell? ⟨w2.heap.size, 1, none⟩ = some (.slice ao_2 ka_2 ca_2) ∧ w'.cell? ⟨w2.heap.size, 2, none⟩ = some (.slice uo_2 ku_2 cu_2)) (by kernel_rfl) ?_ (fun hHeld => ?_)
            · exact ⟨ii0a, ii1a, ii2a, ii0b, ii1b, ii2b⟩
            refine wpAnyH_take (i := 0) (v := ?_) rfl (by kernel_rfl) (by kernel_rfl) (by kernel_rfl) (fun _ _ _ h => h) (Or.inl ⟨by rfl, ?_⟩) (by assumption) ?_
            rotate_left
            · (intro w hSw; (try dsimp only at hSw); go_simp; (try with_reducible rfl))
            try simp only [Act.put, List.getElem_toArray, List.getElem_cons_succ, List.getElem_cons_zero, List.setIfInBounds_toArray, List.set_cons_zero, List.set_cons_succ]
            refine wpAnyH_take (i := 1) (v := ?_) rfl (by kernel_rfl) (by kernel_rfl) (by kernel_rfl) (fun _ _ _ h => h) (Or.inl ⟨by rfl, ?_⟩) (by assumption) ?_
            rotate_left
            · (intro w hSw; (try dsimp only at hSw); go_simp; (try with_reducible rfl))
            try simp only [Act.put, List.getElem_toArray, List.getElem_cons_succ, List.getElem_cons_zero, List.setIfInBounds_toArray, List.set_cons_zero, List.set_cons_succ]
            refine wpAnyH_take (i := 3) (v := ?_) rfl (by kernel_rfl) (by kernel_rfl) (by kernel_rfl) (fun _ _ _ h => h) (Or.inl ⟨by rfl, ?_⟩) (by assumption) ?_
            rotate_left
            · (intro w hSw; (try dsimp only at hSw); go_simp; (try with_reducible rfl))
            try simp only [Act.put, List.getElem_toArray, List.getElem_cons_succ, List.getElem_cons_zero, List.setIfInBounds_toArray, List.set_cons_zero, List.set_cons_succ]
            refine wpAnyH_take (i := 5) (v := ?_) rfl (by kernel_rfl) (by kernel_rfl) (by kernel_rfl) (fun _ _ _ h => h) (Or.inl ⟨by rfl, ?_⟩) (by assumption) ?_
            rotate_left
            · (intro w hSw; (try dsimp only at hSw); go_simp; (try with_reducible rfl))
            try simp only [Act.put, List.getElem_toArray, List.getElem_cons_succ, List.getElem_cons_zero, List.setIfInBounds_toArray, List.set_cons_zero, List.set_cons_succ]
            refine wpAnyH_ready (rs := [2]) (by kernel_rfl) (by simp) ?_
            refine AllReadyH.cons rfl (fun K hK => ?_) AllReadyH.nil
            go_simp
            refine (HCA.out _ ?h1).mono ?_
            case h1 => exact ((Bxs.start wz).drew).1
            rintro e wZ1' ⟨hbZ1, rfl⟩
            have hyZ1 := Bxs.below ((Bxs.start wz).drew) hbZ1
            obtain ⟨ja0a, ja1a, ja2a, -⟩ := three_cells (HBa.out.below hyZ1.1)
            obtain ⟨ja0b, ja1b, ja2b, -⟩ := three_cells (HBb.out.below hyZ1.1)
            refine hK.out _ _ ?_ (fun hHeld => ?_)
            · exact ⟨ja0a, ja1a, ja2a, ja0b, ja1b, ja2b⟩
            clear hK K
            try simp only [Act.put, List.getElem_toArray, List.getElem_cons_succ, List.getElem_cons_zero, List.setIfInBounds_toArray, List.set_cons_zero, List.set_cons_succ]
            refine wpAnyH_ready (rs := [4]) (by kernel_rfl) (by simp) ?_
            refine AllReadyH.cons rfl (fun K hK => ?_) AllReadyH.nil
            go_simp
            refine (HNB.out _ ?h1).mono ?_
            case h1 => exact hyZ1.1
            rintro e wZ2' ⟨hbZ2, v2', rfl, hV2⟩
            have hyZ2 := Bxs.below hyZ1 hbZ2
            obtain ⟨jb0a, jb1a, jb2a, -⟩ := three_cells (HBa.out.below hyZ2.1)
            obtain ⟨jb0b, jb1b, jb2b, -⟩ := three_cells (HBb.out.below hyZ2.1)
            refine hK.out _ _ ?_ (fun hHeld => ?_)
            · exact ⟨jb0a, jb1a, jb2a, jb0b, jb1b, jb2b⟩
            clear hK K
            try simp only [Act.put, List.getElem_toArray, List.getElem_cons_succ, List.getElem_cons_zero, List.setIfInBounds_toArray, List.set_cons_zero, List.set_cons_succ]
            refine wpAnyH_ready (rs := [6]) (by kernel_rfl) (by simp) ?_
            refine AllReadyH.cons rfl (fun K hK => ?_) AllReadyH.nil
            go_simp
            refine (HNA.out _ ?h1).mono ?_
            case h1 => exact hyZ2.1
            rintro e wZ3' ⟨hbZ3, v3', rfl, hV3⟩
            have hyZ3 := Bxs.below hyZ2 hbZ3
            obtain ⟨jc0a, jc1a, jc2a, -⟩ := three_cells (HBa.out.below hyZ3.1)
            obtain ⟨jc0b, jc1b, jc2b, -⟩ := three_cells (HBb.out.below hyZ3.1)
            refine hK.out _ _ ?_ (fun hHeld => ?_)
            · exact ⟨jc0a, jc1a, jc2a, jc0b, jc1b, jc2b⟩
            clear hK K
            try simp only [Act.put, List.getElem_toArray, List.getElem_cons_succ, List.getElem_cons_zero, List.setIfInBounds_toArray, List.set_cons_zero, List.set_cons_succ]
            refine wpAnyH_ready (rs := [7]) (by kernel_rfl) (by simp) ?_
            refine AllReadyH.cons rfl (fun K hK => ?_) AllReadyH.nil
            go_simp
            refine (HC2.out _ _ _ ?h1 ?h2 ?h3).mono ?_
            case h1 => exact hyZ3.1
            case h2 => exact hV2.below hbZ3
            case h3 => exact hV3
            rintro e wZ4' ⟨hbZ4, rfl⟩
            have hyZ4 := Bxs.below hyZ3 hbZ4
            obtain ⟨jd0a, jd1a, jd2a, -⟩ := three_cells (HBa.out.below hyZ4.1)
            obtain ⟨jd0b, jd1b, jd2b, -⟩ := three_cells (HBb.out.below hyZ4.1)
            refine hK.out _ _ ?_ (fun hHeld => ?_)
            · exact ⟨jd0a, jd1a, jd2a, jd0b, jd1b, jd2b⟩
            clear hK K
            try simp only [Act.put, List.getElem_toArray, List.getElem_cons_succ, List.getElem_cons_zero, List.setIfInBounds_toArray, List.set_cons_zero, List.set_cons_succ]
            refine wpAnyH_take (i := 8) (v := ?_) rfl (by kernel_rfl) (by kernel_rfl) (by kernel_rfl) (fun _ _ _ h => h) (Or.inl ⟨by rfl, ?_⟩) (by assumption) ?_
            rotate_left
            · (intro w hSw; (try dsimp only at hSw); go_simp; (try with_reducible rfl))
            try simp only [Act.put, List.getElem_toArray, List.getElem_cons_succ, List.getElem_cons_zero, List.setIfInBounds_toArray, List.set_cons_zero, List.set_cons_succ]
            refine wpAnyH_take (i := 9) (v := ?_) rfl (by kernel_rfl) (by kernel_rfl) (by kernel_rfl) (fun _ _ _ h => h) (Or.inl ⟨by rfl, ?_⟩) (by assumption) ?_
            rotate_left
            · (intro w hSw; (try dsimp only at hSw); go_simp; (try with_reducible rfl))
            try simp only [Act.put, List.getElem_toArray, List.getElem_cons_succ, List.getElem_cons_zero, List.setIfInBounds_toArray, List.set_cons_zero, List.set_cons_succ]
            refine wpAnyH_ready (rs := [10]) (by kernel_rfl) (by simp) ?_
            refine AllReadyH.cons rfl (fun K hK => ?_) AllReadyH.nil
            go_simp
            refine (awake_any _).mono ?_
            rintro e wZ5' ⟨hbZ5, rfl⟩
            have hyZ5 := Bxs.below hyZ4 hbZ5
            obtain ⟨je0a, je1a, je2a, -⟩ := three_cells (HBa.out.below hyZ5.1)
            obtain ⟨je0b, je1b, je2b, -⟩ := three_cells (HBb.out.below hyZ5.1)
            refine hK.out _ _ ?_ (fun hHeld => ?_)
            · exact ⟨je0a, je1a, je2a, je0b, je1b, je2b⟩
            clear hK K
            try simp only [Act.put, List.getElem_toArray, List.getElem_cons_succ, List.getElem_cons_zero, List.setIfInBounds_toArray, List.set_cons_zero, List.set_cons_succ]
            refine wpAnyH_take (i := 11) (v := ?_) rfl (by kernel_rfl) (by kernel_rfl) (by kernel_rfl) (fun _ _ _ h => h) (Or.inl ⟨by rfl, ?_⟩) (by assumption) ?_
            rotate_left
            · (intro w hSw; (try dsimp only at hSw); go_simp; (try with_reducible rfl))
            try simp only [Act.put, List.getElem_toArray, List.getElem_cons_succ, List.getElem_cons_zero, List.setIfInBounds_toArray, List.set_cons_zero, List.set_cons_succ]
            refine wpAnyH_take (i := 12) (v := ?_) rfl (by kernel_rfl) (by kernel_rfl) (by kernel_rfl) (fun _ _ _ h => h) (Or.inl ⟨by rfl, ?_⟩) (by assumption) ?_
            rotate_left
            · (intro w hSw; (try dsimp only at hSw); go_simp; (try with_reducible rfl))
            try simp only [Act.put, List.getElem_toArray, List.getElem_cons_succ, List.getElem_cons_zero, List.setIfInBounds_toArray, List.set_cons_zero, List.set_cons_succ]
            refine wpAnyH_done (by kernel_rfl) ?_ _
            have hfin : Below w.heap.size w wZ5' := HW.out.trans (hyZ5.1.mono HW.out.size)
            have HFIN := Kept.mk hfin
            go_wp2
            go_ret
            exact ⟨HFIN.out, rfl⟩
          · skip
            obtain ⟨τ, hn0, hτ⟩ : ∃ σ : Int, (σ == 0) = false ∧ Dg.sg P2 0 = σ := by
              refine ⟨_, ?_, rfl⟩
              rcases Int.lt_trichotomy P2 0 with h | h | h
              · rw [Dg.sg_lt h]; rfl
              · exact absurd h hz2
              · rw [Dg.sg_gt h]; rfl
            have Hτ := Kept.mk hτ
            clear hτ
            have HZ2 := Kept.mk hz2
            have hnn : (τ != 0) = true := by rw [bne, hn0]; rfl
            clear hz2
            obtain ⟨p25_0b, p25_1b, p25_2b, -⟩ := three_cells (HBb.out)
            go_wp2_with fail
            refine (rsign_any HIb.out).mono ?_
            rintro e w24 ⟨hb24, he24⟩
            rw [Hτ.out] at he24
            subst he24
            replace HBa := Kept.mk (HBa.out.below hb24)
            replace HIa := Kept.mk (HIa.out.below hb24)
            replace HBb := Kept.mk (HBb.out.below hb24)
            replace HIb := Kept.mk (HIb.out.below hb24)
            replace HBab := Kept.mk (HBab.out.below hb24)
            replace HIab := Kept.mk (HIab.out.below hb24)
            replace HW := Kept.mk (HW.out.trans (Below.mono hb24 HW.out.size))
            clear hb24 p25_0b p25_1b p25_2b
            have HQN := Kept.mk (HQV.out HZ2.out).1
            have HQD := Kept.mk (HQV.out HZ2.out).2.1
            have HQS := Kept.mk (HQV.out HZ2.out).2.2
            have HRS := Kept.mk (HRV.out HZ2.out)
            clear HQV HRV
            obtain ⟨p27_0ab, p27_1ab, p27_2ab, -⟩ := three_cells (HBab.out)
            obtain ⟨p28_0b, p28_1b, p28_2b, -⟩ := three_cells (HBb.out)
            go_wp2_with fail
            have hc26 := rquoq_any HIab.out HIb.out hADp HLOQ2.out HZ2.out (by decide) (by decide) HQS.out
            rw [HQN.out, HQD.out] at hc26
            refine hc26.mono ?_
            clear hc26
            rintro e w26 ⟨hb26, v26, rfl, hR26⟩
            obtain ⟨s26, o26, k26, c26, u26, j26, d26, rfl, g1, g2, g3, g4⟩ := hR26.form
            clear g1 g2 g3 g4
            replace HBa := Kept.mk (HBa.out.below hb26)
            replace HIa := Kept.mk (HIa.out.below hb26)
            replace HBb := Kept.mk (HBb.out.below hb26)
            replace HIb := Kept.mk (HIb.out.below hb26)
            replace HBab := Kept.mk (HBab.out.below hb26)
            replace HIab := Kept.mk (HIab.out.below hb26)
            replace HW := Kept.mk (HW.out.trans (Below.mono hb26 HW.out.size))
            clear hb26 p27_0ab p27_1ab p27_2ab p28_0b p28_1b p28_2b
            have hal29 : Below w26.heap.size w26 (w26.alloc (.cells #[.bool s26, .slice o26 k26 c26, .slice u26 j26 d26] 76)) := (Below.refl _ _).alloc (Nat.le_refl _) _
            replace HBa := Kept.mk (HBa.out.below hal29)
            replace HIa := Kept.mk (HIa.out.below hal29)
            replace HBb := Kept.mk (HBb.out.below hal29)
            replace HIb := Kept.mk (HIb.out.below hal29)
            replace HBab := Kept.mk (HBab.out.below hal29)
            replace HIab := Kept.mk (HIab.out.below hal29)
            replace HW := Kept.mk (HW.out.trans (Below.mono hal29 HW.out.size))
            have HBq : Kept (H3 (w26.alloc (.cells #[.bool s26, .slice o26 k26 c26, .slice u26 j26 d26] 76)) w26.heap.size (.bool s26) (.slice o26 k26 c26) (.slice u26 j26 d26)) := ⟨H3.new _ _ _ _ _ rfl⟩
            have HIq : Kept (RatV (82002 + (max 41000 1) + 2) (w26.alloc (.cells #[.bool s26, .slice o26 k26 c26, .slice u26 j26 d26] 76)) (.agg #[.bool s26, .slice o26 k26 c26, .slice u26 j26 d26]) (P1) (Q1)) := ⟨hR26.below hal29⟩
            clear hal29 hR26
            go_wp2_with fail
            refine (ratio_any 1 1 _ (by decide) (by decide) (by decide) (by decide)).mono ?_
            rintro e w30 ⟨hb30, v30, er30, rfl, hR30, he30⟩
            rw [if_neg (by decide), if_neg (by decide), fr_11.1, fr_11.2] at hR30
            rw [if_neg (by decide)] at he30
            subst he30
            obtain ⟨s30, o30, k30, c30, u30, j30, d30, rfl, g1, g2, g3, g4⟩ := hR30.form
            clear g1 g2 g3 g4
            replace HBa := Kept.mk (HBa.out.below hb30)
            replace HIa := Kept.mk (HIa.out.below hb30)
            replace HBb := Kept.mk (HBb.out.below hb30)
            replace HIb := Kept.mk (HIb.out.below hb30)
            replace HBab := Kept.mk (HBab.out.below hb30)
            replace HIab := Kept.mk (HIab.out.below hb30)
            replace HBq := Kept.mk (HBq.out.below hb30)
            replace HIq := Kept.mk (HIq.out.below hb30)
            replace HW := Kept.mk (HW.out.trans (Below.mono hb30 HW.out.size))
            clear hb30
            have hal31 : Below w30.heap.size w30 (w30.alloc (.cells #[.bool s30, .slice o30 k30 c30, .slice u30 j30 d30] 76)) := (Below.refl _ _).alloc (Nat.le_refl _) _
            replace HBa := Kept.mk (HBa.out.below hal31)
            replace HIa := Kept.mk (HIa.out.below hal31)
            replace HBb := Kept.mk (HBb.out.below hal31)
            replace HIb := Kept.mk (HIb.out.below hal31)
            replace HBab := Kept.mk (HBab.out.below hal31)
            replace HIab := Kept.mk (HIab.out.below hal31)
            replace HBq := Kept.mk (HBq.out.below hal31)
            replace HIq := Kept.mk (HIq.out.below hal31)
            replace HW := Kept.mk (HW.out.trans (Below.mono hal31 HW.out.size))
            have HBone : Kept (H3 (w30.alloc (.cells #[.bool s30, .slice o30 k30 c30, .slice u30 j30 d30] 76)) w30.heap.size (.bool s30) (.slice o30 k30 c30) (.slice u30 j30 d30)) := ⟨H3.new _ _ _ _ _ rfl⟩
            have HIone : Kept (RatV 1 (w30.alloc (.cells #[.bool s30, .slice o30 k30 c30, .slice u30 j30 d30] 76)) (.agg #[.bool s30, .slice o30 k30 c30, .slice u30 j30 d30]) (1) (1)) := ⟨hR30.below hal31⟩
            clear hal31 hR30
            have d1 : 1 * P2 ≠ 0 := by rw [Int.one_mul]; exact HZ2.out
            have eR := fr_cross (X := 1 * Q2) d1
            have lR := low_fr (a := 1 * Q2) d1
            generalize hRN : frN (1 * Q2) (1 * P2) = RN at *
            generalize hRD : frD (1 * Q2) (1 * P2) = RD at *
            have hRDp := lR.1
            obtain ⟨hKN, hKD⟩ := fr_to (X := RN * P2) (Y := RD * Q2) (Int.mul_ne_zero (by omega) (by omega)) low_11 (fld_back eR)
            have HKS : Kept (smR (frN (RN * P2) (RD * Q2)) (frD (RN * P2) (RD * Q2)) = true) := ⟨by rw [hKN, hKD]; exact smR_sz (sz_one 1) (sz_one 1) (by decide) (by decide)⟩
            have HRN := Kept.mk hRN
            have HRD := Kept.mk hRD
            have HKN := Kept.mk hKN
            have HKD := Kept.mk hKD
            clear hRN hRD hKN hKD eR lR d1
            obtain ⟨p33_0one, p33_1one, p33_2one, -⟩ := three_cells (HBone.out)
            obtain ⟨p34_0b, p34_1b, p34_2b, -⟩ := three_cells (HBb.out)
            go_wp2_with fail
            have hc32 := rquoq_any HIone.out HIb.out (show (0 : Int) < 1 by decide) HLOQ2.out HZ2.out (by decide) (by decide) (by rw [HRN.out, HRD.out]; exact HRS.out)
            rw [HRN.out, HRD.out] at hc32
            refine hc32.mono ?_
            clear hc32
            rintro e w32 ⟨hb32, v32, rfl, hR32⟩
            obtain ⟨s32, o32, k32, c32, u32, j32, d32, rfl, g1, g2, g3, g4⟩ := hR32.form
            clear g1 g2 g3 g4
            replace HBa := Kept.mk (HBa.out.below hb32)
            replace HIa := Kept.mk (HIa.out.below hb32)
            replace HBb := Kept.mk (HBb.out.below hb32)
            replace HIb := Kept.mk (HIb.out.below hb32)
            replace HBab := Kept.mk (HBab.out.below hb32)
            replace HIab := Kept.mk (HIab.out.below hb32)
            replace HBq := Kept.mk (HBq.out.below hb32)
            replace HIq := Kept.mk (HIq.out.below hb32)
            replace HBone := Kept.mk (HBone.out.below hb32)
            replace HIone := Kept.mk (HIone.out.below hb32)
            replace HW := Kept.mk (HW.out.trans (Below.mono hb32 HW.out.size))
            clear hb32 p33_0one p33_1one p33_2one p34_0b p34_1b p34_2b
            have hal35 : Below w32.heap.size w32 (w32.alloc (.cells #[.bool s32, .slice o32 k32 c32, .slice u32 j32 d32] 76)) := (Below.refl _ _).alloc (Nat.le_refl _) _
            replace HBa := Kept.mk (HBa.out.below hal35)
            replace HIa := Kept.mk (HIa.out.below hal35)
            replace HBb := Kept.mk (HBb.out.below hal35)
            replace HIb := Kept.mk (HIb.out.below hal35)
            replace HBab := Kept.mk (HBab.out.below hal35)
            replace HIab := Kept.mk (HIab.out.below hal35)
            replace HBq := Kept.mk (HBq.out.below hal35)
            replace HIq := Kept.mk (HIq.out.below hal35)
            replace HBone := Kept.mk (HBone.out.below hal35)
            replace HIone := Kept.mk (HIone.out.below hal35)
            replace HW := Kept.mk (HW.out.trans (Below.mono hal35 HW.out.size))
            have HBrr : Kept (H3 (w32.alloc (.cells #[.bool s32, .slice o32 k32 c32, .slice u32 j32 d32] 76)) w32.heap.size (.bool s32) (.slice o32 k32 c32) (.slice u32 j32 d32)) := ⟨H3.new _ _ _ _ _ rfl⟩
            have HIrr : Kept (RatV (1 + (max 41000 1) + 2) (w32.alloc (.cells #[.bool s32, .slice o32 k32 c32, .slice u32 j32 d32] 76)) (.agg #[.bool s32, .slice o32 k32 c32, .slice u32 j32 d32]) (RN) (RD)) := ⟨hR32.below hal35⟩
            clear hal35 hR32
            obtain ⟨p37_0rr, p37_1rr, p37_2rr, -⟩ := three_cells (HBrr.out)
            obtain ⟨p38_0b, p38_1b, p38_2b, -⟩ := three_cells (HBb.out)
            go_wp2_with fail
            have hc36 := rmul_any HIrr.out HIb.out hRDp hQ2p (by decide) (by decide) HKS.out
            rw [HKN.out, HKD.out] at hc36
            refine hc36.mono ?_
            clear hc36
            rintro e w36 ⟨hb36, v36, rfl, hR36⟩
            obtain ⟨s36, o36, k36, c36, u36, j36, d36, rfl, g1, g2, g3, g4⟩ := hR36.form
            clear g1 g2 g3 g4
            replace HBa := Kept.mk (HBa.out.below hb36)
            replace HIa := Kept.mk (HIa.out.below hb36)
            replace HBb := Kept.mk (HBb.out.below hb36)
            replace HIb := Kept.mk (HIb.out.below hb36)
            replace HBab := Kept.mk (HBab.out.below hb36)
            replace HIab := Kept.mk (HIab.out.below hb36)
            replace HBq := Kept.mk (HBq.out.below hb36)
            replace HIq := Kept.mk (HIq.out.below hb36)
            replace HBone := Kept.mk (HBone.out.below hb36)
            replace HIone := Kept.mk (HIone.out.below hb36)
            replace HBrr := Kept.mk (HBrr.out.below hb36)
            replace HIrr := Kept.mk (HIrr.out.below hb36)
            replace HW := Kept.mk (HW.out.trans (Below.mono hb36 HW.out.size))
            clear hb36 p37_0rr p37_1rr p37_2rr p38_0b p38_1b p38_2b
            have hal39 : Below w36.heap.size w36 (w36.alloc (.cells #[.bool s36, .slice o36 k36 c36, .slice u36 j36 d36] 76)) := (Below.refl _ _).alloc (Nat.le_refl _) _
            replace HBa := Kept.mk (HBa.out.below hal39)
            replace HIa := Kept.mk (HIa.out.below hal39)
            replace HBb := Kept.mk (HBb.out.below hal39)
            replace HIb := Kept.mk (HIb.out.below hal39)
            replace HBab := Kept.mk (HBab.out.below hal39)
            replace HIab := Kept.mk (HIab.out.below hal39)
            replace HBq := Kept.mk (HBq.out.below hal39)
            replace HIq := Kept.mk (HIq.out.below hal39)
            replace HBone := Kept.mk (HBone.out.below hal39)
            replace HIone := Kept.mk (HIone.out.below hal39)
            replace HBrr := Kept.mk (HBrr.out.below hal39)
            replace HIrr := Kept.mk (HIrr.out.below hal39)
            replace HW := Kept.mk (HW.out.trans (Below.mono hal39 HW.out.size))
            have HBbk : Kept (H3 (w36.alloc (.cells #[.bool s36, .slice o36 k36 c36, .slice u36 j36 d36] 76)) w36.heap.size (.bool s36) (.slice o36 k36 c36) (.slice u36 j36 d36)) := ⟨H3.new _ _ _ _ _ rfl⟩
            have HIbk : Kept (RatV (1 + (max 41000 1) + 2 + 41000 + 2) (w36.alloc (.cells #[.bool s36, .slice o36 k36 c36, .slice u36 j36 d36] 76)) (.agg #[.bool s36, .slice o36 k36 c36, .slice u36 j36 d36]) (1) (1)) := ⟨hR36.below hal39⟩
            clear hal39 hR36
            obtain ⟨p41_0q, p41_1q, p41_2q, -⟩ := three_cells (HBq.out)
            obtain ⟨p42_0a, p42_1a, p42_2a, -⟩ := three_cells (HBa.out)
            go_wp2_with fail
            refine (rcmp_any HIq.out HIa.out hQ1p hQ1p (by decide) (by decide)).mono ?_
            rintro e w40 ⟨hb40, he40⟩
            rw [Dg.sg_eq] at he40
            subst he40
            replace HBa := Kept.mk (HBa.out.below hb40)
            replace HIa := Kept.mk (HIa.out.below hb40)
            replace HBb := Kept.mk (HBb.out.below hb40)
            replace HIb := Kept.mk (HIb.out.below hb40)
            replace HBab := Kept.mk (HBab.out.below hb40)
            replace HIab := Kept.mk (HIab.out.below hb40)
            replace HBq := Kept.mk (HBq.out.below hb40)
            replace HIq := Kept.mk (HIq.out.below hb40)
            replace HBone := Kept.mk (HBone.out.below hb40)
            replace HIone := Kept.mk (HIone.out.below hb40)
            replace HBrr := Kept.mk (HBrr.out.below hb40)
            replace HIrr := Kept.mk (HIrr.out.below hb40)
            replace HBbk := Kept.mk (HBbk.out.below hb40)
            replace HIbk := Kept.mk (HIbk.out.below hb40)
            replace HW := Kept.mk (HW.out.trans (Below.mono hb40 HW.out.size))
            clear hb40 p41_0q p41_1q p41_2q p42_0a p42_1a p42_2a
            obtain ⟨p44_0bk, p44_1bk, p44_2bk, -⟩ := three_cells (HBbk.out)
            obtain ⟨p45_0one, p45_1one, p45_2one, -⟩ := three_cells (HBone.out)
            go_wp2_with fail
            refine (rcmp_any HIbk.out HIone.out (show (0 : Int) < 1 by decide) (show (0 : Int) < 1 by decide) (by decide) (by decide)).mono ?_
            rintro e w43 ⟨hb43, he43⟩
            rw [Dg.sg_eq] at he43
            subst he43
            replace HBa := Kept.mk (HBa.out.below hb43)
            replace HIa := Kept.mk (HIa.out.below hb43)
            replace HBb := Kept.mk (HBb.out.below hb43)
            replace HIb := Kept.mk (HIb.out.below hb43)
            replace HBab := Kept.mk (HBab.out.below hb43)
            replace HIab := Kept.mk (HIab.out.below hb43)
            replace HBq := Kept.mk (HBq.out.below hb43)
            replace HIq := Kept.mk (HIq.out.below hb43)
            replace HBone := Kept.mk (HBone.out.below hb43)
            replace HIone := Kept.mk (HIone.out.below hb43)
            replace HBrr := Kept.mk (HBrr.out.below hb43)
            replace HIrr := Kept.mk (HIrr.out.below hb43)
            replace HBbk := Kept.mk (HBbk.out.below hb43)
            replace HIbk := Kept.mk (HIbk.out.below hb43)
            replace HW := Kept.mk (HW.out.trans (Below.mono hb43 HW.out.size))
            clear hb43 p44_0bk p44_1bk p44_2bk p45_0one p45_1one p45_2one
            go_wp2_with fail
            generalize w43 = wz at *
            have hss : (σ == σ) = true := by simp
            have HCA : Kept (∀ W, Below wz.heap.size wz W → Calls Tryz.prog 74 #[(.agg #[.bool sa_1, .slice ao_1 ka_1 ca_1, .slice uo_1 ku_1 cu_1]), (.agg #[.bool sa_2, .slice ao_2 ka_2 ca_2, .slice uo_2 ku_2 cu_2])] W (RetV W (.int .i64 σ))) := ⟨fun W h => by have hc := rcmp_any (HIa.out.below h) (HIb.out.below h) hQ1p hQ2p (by decide) (by decide); rw [HSG.out] at hc; exact hc⟩
            have HNB : Kept (∀ W, Below wz.heap.size wz W → Calls Tryz.prog 62 #[(.agg #[.bool sa_2, .slice ao_2 ka_2 ca_2, .slice uo_2 ku_2 cu_2])] W (RetRat 41000 W (-P2) Q2)) := ⟨fun W h => rneg_any (HIb.out.below h) (by decide)⟩
            have HNA : Kept (∀ W, Below wz.heap.size wz W → Calls Tryz.prog 62 #[(.agg #[.bool sa_1, .slice ao_1 ka_1 ca_1, .slice uo_1 ku_1 cu_1])] W (RetRat 41000 W (-P1) Q1)) := ⟨fun W h => rneg_any (HIa.out.below h) (by decide)⟩
            have HC2 : Kept (∀ W u v, Below wz.heap.size wz W → RatV 41000 W u (-P2) Q2 → RatV 41000 W v (-P1) Q1 → Calls Tryz.prog 74 #[u, v] W (RetV W (.int .i64 σ))) := ⟨fun W u v _ hu hv => by have hc := rcmp_any hu hv hQ2p hQ1p (by decide) (by decide); rw [sg_neg2, HSG.out] at hc; exact hc⟩
            obtain ⟨ii0a, ii1a, ii2a, -⟩ := three_cells (HBa.out)
            obtain ⟨ii0b, ii1b, ii2b, -⟩ := three_cells (HBb.out)
            refine wp_region_held_drew (S := fun w' => w'.cell? ⟨w1.heap.size, 0, none⟩ = some (.bool sa_1) ∧ w'.cell? ⟨w1.heap.size, 1, none⟩ = some (.slice ao_1 ka_1 ca_1) ∧ w'.cell? ⟨w1.heap.size, 2, none⟩ = some (.slice uo_1 ku_1 cu_1) ∧ w'.cell? ⟨w2.heap.size, 0, none⟩ = some (.bool sa_2) ∧ w'.cell? ⟨w2.heap.size, 1, none⟩ = some (.slice ao_2 ka_2 ca_2) ∧ w'.cell? ⟨w2.heap.size, 2, none⟩ = some (.slice uo_2 ku_2 cu_2)) (by kernel_rfl) ?_ (fun hHeld => ?_)
            · exact ⟨ii0a, ii1a, ii2a, ii0b, ii1b, ii2b⟩
            refine wpAnyH_take (i := 0) (v := ?_) rfl (by kernel_rfl) (by kernel_rfl) (by kernel_rfl) (fun _ _ _ h => h) (Or.inl ⟨by rfl, ?_⟩) (by assumption) ?_
            rotate_left
            · (intro w hSw; (try dsimp only at hSw); go_simp; (try with_reducible rfl))
            try simp only [Act.put, List.getElem_toArray, List.getElem_cons_succ, List.getElem_cons_zero, List.setIfInBounds_toArray, List.set_cons_zero, List.set_cons_succ]
            refine wpAnyH_take (i := 1) (v := ?_) rfl (by kernel_rfl) (by kernel_rfl) (by kernel_rfl) (fun _ _ _ h => h) (Or.inl ⟨by rfl, ?_⟩) (by assumption) ?_
            rotate_left
            · (intro w hSw; (try dsimp only at hSw); go_simp; (try with_reducible rfl))
            try simp only [Act.put, List.getElem_toArray, List.getElem_cons_succ, List.getElem_cons_zero, List.setIfInBounds_toArray, List.set_cons_zero, List.set_cons_succ]
            refine wpAnyH_take (i := 3) (v := ?_) rfl (by kernel_rfl) (by kernel_rfl) (by kernel_rfl) (fun _ _ _ h => h) (Or.inl ⟨by rfl, ?_⟩) (by assumption) ?_
            rotate_left
            · (intro w hSw; (try dsimp only at hSw); go_simp; (try with_reducible rfl))
            try simp only [Act.put, List.getElem_toArray, List.getElem_cons_succ, List.getElem_cons_zero, List.setIfInBounds_toArray, List.set_cons_zero, List.set_cons_succ]
            refine wpAnyH_take (i := 5) (v := ?_) rfl (by kernel_rfl) (by kernel_rfl) (by kernel_rfl) (fun _ _ _ h => h) (Or.inl ⟨by rfl, ?_⟩) (by assumption) ?_
            rotate_left
            · (intro w hSw; (try dsimp only at hSw); go_simp; (try with_reducible rfl))
            try simp only [Act.put, List.getElem_toArray, List.getElem_cons_succ, List.getElem_cons_zero, List.setIfInBounds_toArray, List.set_cons_zero, List.set_cons_succ]
            refine wpAnyH_ready (rs := [2]) (by kernel_rfl) (by simp) ?_
            refine AllReadyH.cons rfl (fun K hK => ?_) AllReadyH.nil
            go_simp
            refine (HCA.out _ ?h1).mono ?_
            case h1 => exact ((Bxs.start wz).drew).1
            rintro e wZ1' ⟨hbZ1, rfl⟩
            have hyZ1 := Bxs.below ((Bxs.start wz).drew) hbZ1
            obtain ⟨ja0a, ja1a, ja2a, -⟩ := three_cells (HBa.out.below hyZ1.1)
            obtain ⟨ja0b, ja1b, ja2b, -⟩ := three_cells (HBb.out.below hyZ1.1)
            refine hK.out _ _ ?_ (fun hHeld => ?_)
            · exact ⟨ja0a, ja1a, ja2a, ja0b, ja1b, ja2b⟩
            clear hK K
            try simp only [Act.put, List.getElem_toArray, List.getElem_cons_succ, List.getElem_cons_zero, List.setIfInBounds_toArray, List.set_cons_zero, List.set_cons_succ]
            refine wpAnyH_ready (rs := [4]) (by kernel_rfl) (by simp) ?_
            refine AllReadyH.cons rfl (fun K hK => ?_) AllReadyH.nil
            go_simp
            refine (HNB.out _ ?h1).mono ?_
            case h1 => exact hyZ1.1
            rintro e wZ2' ⟨hbZ2, v2', rfl, hV2⟩
            have hyZ2 := Bxs.below hyZ1 hbZ2
            obtain ⟨jb0a, jb1a, jb2a, -⟩ := three_cells (HBa.out.below hyZ2.1)
            obtain ⟨jb0b, jb1b, jb2b, -⟩ := three_cells (HBb.out.below hyZ2.1)
            refine hK.out _ _ ?_ (fun hHeld => ?_)
            · exact ⟨jb0a, jb1a, jb2a, jb0b, jb1b, jb2b⟩
            clear hK K
            try simp only [Act.put, List.getElem_toArray, List.getElem_cons_succ, List.getElem_cons_zero, List.setIfInBounds_toArray, List.set_cons_zero, List.set_cons_succ]
            refine wpAnyH_ready (rs := [6]) (by kernel_rfl) (by simp) ?_
            refine AllReadyH.cons rfl (fun K hK => ?_) AllReadyH.nil
            go_simp
            refine (HNA.out _ ?h1).mono ?_
            case h1 => exact hyZ2.1
            rintro e wZ3' ⟨hbZ3, v3', rfl, hV3⟩
            have hyZ3 := Bxs.below hyZ2 hbZ3
            obtain ⟨jc0a, jc1a, jc2a, -⟩ := three_cells (HBa.out.below hyZ3.1)
            obtain ⟨jc0b, jc1b, jc2b, -⟩ := three_cells (HBb.out.below hyZ3.1)
            refine hK.out _ _ ?_ (fun hHeld => ?_)
            · exact ⟨jc0a, jc1a, jc2a, jc0b, jc1b, jc2b⟩
            clear hK K
            try simp only [Act.put, List.getElem_toArray, List.getElem_cons_succ, List.getElem_cons_zero, List.setIfInBounds_toArray, List.set_cons_zero, List.set_cons_succ]
            refine wpAnyH_ready (rs := [7]) (by kernel_rfl) (by simp) ?_
            refine AllReadyH.cons rfl (fun K hK => ?_) AllReadyH.nil
            go_simp
            refine (HC2.out _ _ _ ?h1 ?h2 ?h3).mono ?_
            case h1 => exact hyZ3.1
            case h2 => exact hV2.below hbZ3
            case h3 => exact hV3
            rintro e wZ4' ⟨hbZ4, rfl⟩
            have hyZ4 := Bxs.below hyZ3 hbZ4
            obtain ⟨jd0a, jd1a, jd2a, -⟩ := three_cells (HBa.out.below hyZ4.1)
            obtain ⟨jd0b, jd1b, jd2b, -⟩ := three_cells (HBb.out.below hyZ4.1)
            refine hK.out _ _ ?_ (fun hHeld => ?_)
            · exact ⟨jd0a, jd1a, jd2a, jd0b, jd1b, jd2b⟩
            clear hK K
            try simp only [Act.put, List.getElem_toArray, List.getElem_cons_succ, List.getElem_cons_zero, List.setIfInBounds_toArray, List.set_cons_zero, List.set_cons_succ]
            refine wpAnyH_take (i := 8) (v := ?_) rfl (by kernel_rfl) (by kernel_rfl) (by kernel_rfl) (fun _ _ _ h => h) (Or.inl ⟨by rfl, ?_⟩) (by assumption) ?_
            rotate_left
            · (intro w hSw; (try dsimp only at hSw); go_simp; (try with_reducible rfl))
            try simp only [Act.put, List.getElem_toArray, List.getElem_cons_succ, List.getElem_cons_zero, List.setIfInBounds_toArray, List.set_cons_zero, List.set_cons_succ]
            refine wpAnyH_take (i := 9) (v := ?_) rfl (by kernel_rfl) (by kernel_rfl) (by kernel_rfl) (fun _ _ _ h => h) (Or.inl ⟨by rfl, ?_⟩) (by assumption) ?_
            rotate_left
            · (intro w hSw; (try dsimp only at hSw); go_simp; (try with_reducible rfl))
            try simp only [Act.put, List.getElem_toArray, List.getElem_cons_succ, List.getElem_cons_zero, List.setIfInBounds_toArray, List.set_cons_zero, List.set_cons_succ]
            refine wpAnyH_ready (rs := [10]) (by kernel_rfl) (by simp) ?_
            refine AllReadyH.cons rfl (fun K hK => ?_) AllReadyH.nil
            go_simp
            refine (awake_any _).mono ?_
            rintro e wZ5' ⟨hbZ5, rfl⟩
            have hyZ5 := Bxs.below hyZ4 hbZ5
            obtain ⟨je0a, je1a, je2a, -⟩ := three_cells (HBa.out.below hyZ5.1)
            obtain ⟨je0b, je1b, je2b, -⟩ := three_cells (HBb.out.below hyZ5.1)
            refine hK.out _ _ ?_ (fun hHeld => ?_)
            · exact ⟨je0a, je1a, je2a, je0b, je1b, je2b⟩
            clear hK K
            try simp only [Act.put, List.getElem_toArray, List.getElem_cons_succ, List.getElem_cons_zero, List.setIfInBounds_toArray, List.set_cons_zero, List.set_cons_succ]
            refine wpAnyH_take (i := 11) (v := ?_) rfl (by kernel_rfl) (by kernel_rfl) (by kernel_rfl) (fun _ _ _ h => h) (Or.inl ⟨by rfl, ?_⟩) (by assumption) ?_
            rotate_left
            · (intro w hSw; (try dsimp only at hSw); go_simp; (try with_reducible rfl))
            try simp only [Act.put, List.getElem_toArray, List.getElem_cons_succ, List.getElem_cons_zero, List.setIfInBounds_toArray, List.set_cons_zero, List.set_cons_succ]
            refine wpAnyH_take (i := 12) (v := ?_) rfl (by kernel_rfl) (by kernel_rfl) (by kernel_rfl) (fun _ _ _ h => h) (Or.inl ⟨by rfl, ?_⟩) (by assumption) ?_
            rotate_left
            · (intro w hSw; (try dsimp only at hSw); go_simp; (try with_reducible rfl))
            try simp only [Act.put, List.getElem_toArray, List.getElem_cons_succ, List.getElem_cons_zero, List.setIfInBounds_toArray, List.set_cons_zero, List.set_cons_succ]
            refine wpAnyH_done (by kernel_rfl) ?_ _
            have hfin : Below w.heap.size w wZ5' := HW.out.trans (hyZ5.1.mono HW.out.size)
            have HFIN := Kept.mk hfin
            go_wp2
            go_ret
            exact ⟨HFIN.out, rfl⟩
end Go.Proofs.YtblbheilddafbaaGreatDoor

set_option linter.unusedVariables false
namespace Go.Proofs.YtblbheilddafbaaGreatDoor.tallyField
open Go Go.ChangeShapes Go.WideShapes Go.ChangeAt Go.RowKit Go.Proofs.YtblbheilddafbaaGreatDoor
open Go.ChangeMaps (open_string shut_string)
set_option maxRecDepth 100000 in
theorem contract (H : Type) (enc : TypeId × Value → H) (W : World) (base : Nat) (args : Array Value) (ds gs : List (DataW H)) (before : List MemPlace)
    (hval : ∀ (j : Nat) t v, Tryz.f16.params[j]? = some t → args[j]? = some v → Value.okWide Tryz.prog W .any base t v)
    (hW : DataW.Whole enc Tryz.prog Tryz.f16.params.toList Rows.tallyFieldSpec.vars false W args.toList ds gs before) (ts : List TypeId) (hsz : (DataW.weightsEach Tryz.prog (Tryz.f16.params.toList ++ ts) (ds ++ gs)).all (· ≤ reachBytes) = true) :
    Calls Tryz.prog 16 args W fun e W' => ∃ v, e = .returned v ∧ Rows.tallyFieldSpec.post enc Tryz.prog Tryz.f16 false true false false W args v W' := by
  have hW' := hW
  obtain ⟨p, q, hA0, hV, rfl, hfz, hnd⟩ := hW
  have hA : DataW.TrodAll enc Tryz.prog W 0 (fun _ => true) true Tryz.f16.params.toList args.toList ds p := hA0
  rw [Tryz.params16] at hA hval hsz
  obtain ⟨v0, vs0, d0, ds0, p0, q0, hargs, rfl, rfl, h0, r0⟩ := trodAll_cons hA
  obtain ⟨v1, vs1, d1, ds1, p1, q1, rfl, rfl, rfl, h1, r1⟩ := trodAll_cons r0
  obtain ⟨v2, vs2, d2, ds2, p2, q2, rfl, rfl, rfl, h2, r2⟩ := trodAll_cons r1
  obtain ⟨rfl, rfl, rfl⟩ := trodAll_nil r2
  obtain rfl : args = #[v0, v1, v2] := Array.toList_inj.1 hargs
  obtain ⟨rfl, rfl⟩ := trodVars_none hV
  obtain ⟨a0, rfl, rfl, rfl, w0⟩ := open_string Tryz.underlying9 (hval 0 9 v0 rfl rfl) h0
  obtain ⟨a1, rfl, rfl, rfl, w1⟩ := open_string Tryz.underlying9 (hval 1 9 v1 rfl rfl) h1
  obtain ⟨a2, rfl, rfl, rfl, w2⟩ := open_string Tryz.underlying9 (hval 2 9 v2 rfl rfl) h2
  clear hA0
  simp only [List.append_nil] at hW'
  have hr0 : a0.size ≤ 140737488355328 := by
    have h := sized_string hsz (j := 0) (t := 9) (bytes := a0.data.toList) rfl rfl
    have hl : a0.data.toList.length = a0.size := Array.length_toList
    have hq := reachBytes_lt
    omega
  have hr1 : a1.size ≤ 140737488355328 := by
    have h := sized_string hsz (j := 1) (t := 9) (bytes := a1.data.toList) rfl rfl
    have hl : a1.data.toList.length = a1.size := Array.length_toList
    have hq := reachBytes_lt
    omega
  have hr2 : a2.size ≤ 140737488355328 := by
    have h := sized_string hsz (j := 2) (t := 9) (bytes := a2.data.toList) rfl rfl
    have hl : a2.data.toList.length = a2.size := Array.length_toList
    have hq := reachBytes_lt
    omega
  refine (tallyField_any a0 a1 a2 W hr0 hr1 hr2).mono fun e W' ⟨hb, he⟩ => ?_
  subst he
  exact ⟨_, rfl, post_of_below (pa := []) (pv := []) hW' (fun _ _ _ => trodAll_cons_mk (shut_bool Tryz.underlying4 _) trodAll_mk0) (fun _ _ => trodAll_cons_mk (shut_string Tryz.underlying9 w0) (trodAll_cons_mk (shut_string Tryz.underlying9 w1) (trodAll_cons_mk (shut_string Tryz.underlying9 w2) trodAll_mk0))) (fun _ _ => rfl) rfl
    hb (ok_one (by kernel_rfl) rfl (okWide_bool_mk Tryz.underlying4 _))⟩
end Go.Proofs.YtblbheilddafbaaGreatDoor.tallyField
