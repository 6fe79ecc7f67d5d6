/-
  Texts of the proof, merged by program: Rin1.
-/
import Derived.Test.YtblbheilddafbaaGreatDoorZRin
set_option linter.unusedVariables false
set_option linter.unusedSimpArgs false
namespace Go.Proofs.YtblbheilddafbaaGreatDoor
open Go Go.RowKit
set_option maxRecDepth 20000 in
set_option maxHeartbeats 20000000 in
theorem ring_1 (s t u : ByteArray) (w : World) (hs : s.size ≤ 140737488355328) (ht : t.size ≤ 140737488355328) (hu : u.size ≤ 140737488355328) (hcase : ∀ z1 z2 z3, s.data.toList = Dg.decZ z1 → t.data.toList = Dg.decZ z2 → u.data.toList = Dg.decZ z3 → z1 = z2) :
    Calls Tryz.prog 15 #[.string s, .string t, .string u] w (RetV w (.bool true)) := by
  have HW : Kept (Below w.heap.size w w) := ⟨Below.refl _ _⟩
  have hnot : ∀ (x : Bool) (w : World), (Op.unary .not (.bool x)).run Tryz.prog w = .ok (.bool (!x)) w := fun _ _ => rfl
  go_enter Tryz.func15, Tryz.ntmps15
  go_wp2_with fail
  refine (whole_any s _ hs).mono ?_
  rintro e w1 ⟨hb1, sa1, ao1, ka1, ca1, sb1, bo1, kb1, cb1, ok1, rfl, hy1⟩
  replace HW := Kept.mk (HW.out.trans (Below.mono hb1 HW.out.size))
  have HY1 := Kept.mk hy1
  clear hb1 hy1
  have hal1 : Below w1.heap.size w1 ((w1.alloc (.cells #[.bool sa1, .slice ao1 ka1 ca1] 30)).alloc (.cells #[.bool sb1, .slice bo1 kb1 cb1] 25)) := ((Below.refl _ _).alloc (Nat.le_refl _) _).alloc (by simp) _
  replace HW := Kept.mk (HW.out.trans (Below.mono hal1 HW.out.size))
  have HBa1 : Kept (Hb ((w1.alloc (.cells #[.bool sa1, .slice ao1 ka1 ca1] 30)).alloc (.cells #[.bool sb1, .slice bo1 kb1 cb1] 25)) w1.heap.size (.bool sa1) (.slice ao1 ka1 ca1)) := ⟨(Hb.new _ _ _ _ rfl).more _⟩
  have HBx1 : Kept (Hz ((w1.alloc (.cells #[.bool sa1, .slice ao1 ka1 ca1] 30)).alloc (.cells #[.bool sb1, .slice bo1 kb1 cb1] 25)) (w1.heap.size + 1) (.bool sb1) (.slice bo1 kb1 cb1)) := ⟨Hz.new _ _ _ _ (by simp)⟩
  have HAL1 := Kept.mk hal1
  clear hal1
  cases ok1
  · skip
    clear HBa1 HBx1 HY1 HAL1
    go_wp2_with fail
    refine (whole_any t _ ht).mono ?_
    rintro e w2 ⟨hb2, sa2, ao2, ka2, ca2, sb2, bo2, kb2, cb2, ok2, rfl, hy2⟩
    replace HW := Kept.mk (HW.out.trans (Below.mono hb2 HW.out.size))
    have HY2 := Kept.mk hy2
    clear hb2 hy2
    have hal2 : Below w2.heap.size w2 ((w2.alloc (.cells #[.bool sa2, .slice ao2 ka2 ca2] 30)).alloc (.cells #[.bool sb2, .slice bo2 kb2 cb2] 25)) := ((Below.refl _ _).alloc (Nat.le_refl _) _).alloc (by simp) _
    replace HW := Kept.mk (HW.out.trans (Below.mono hal2 HW.out.size))
    have HBa2 : Kept (Hb ((w2.alloc (.cells #[.bool sa2, .slice ao2 ka2 ca2] 30)).alloc (.cells #[.bool sb2, .slice bo2 kb2 cb2] 25)) w2.heap.size (.bool sa2) (.slice ao2 ka2 ca2)) := ⟨(Hb.new _ _ _ _ rfl).more _⟩
    have HBx2 : Kept (Hz ((w2.alloc (.cells #[.bool sa2, .slice ao2 ka2 ca2] 30)).alloc (.cells #[.bool sb2, .slice bo2 kb2 cb2] 25)) (w2.heap.size + 1) (.bool sb2) (.slice bo2 kb2 cb2)) := ⟨Hz.new _ _ _ _ (by simp)⟩
    have HAL2 := Kept.mk hal2
    clear hal2
    clear HBa2 HBx2 HY2 HAL2
    go_wp2_with fail
    refine (whole_any u _ hu).mono ?_
    rintro e w3 ⟨hb3, sa3, ao3, ka3, ca3, sb3, bo3, kb3, cb3, ok3, rfl, hy3⟩
    replace HW := Kept.mk (HW.out.trans (Below.mono hb3 HW.out.size))
    have HY3 := Kept.mk hy3
    clear hb3 hy3
    have hal3 : Below w3.heap.size w3 ((w3.alloc (.cells #[.bool sa3, .slice ao3 ka3 ca3] 30)).alloc (.cells #[.bool sb3, .slice bo3 kb3 cb3] 25)) := ((Below.refl _ _).alloc (Nat.le_refl _) _).alloc (by simp) _
    replace HW := Kept.mk (HW.out.trans (Below.mono hal3 HW.out.size))
    have HBa3 : Kept (Hb ((w3.alloc (.cells #[.bool sa3, .slice ao3 ka3 ca3] 30)).alloc (.cells #[.bool sb3, .slice bo3 kb3 cb3] 25)) w3.heap.size (.bool sa3) (.slice ao3 ka3 ca3)) := ⟨(Hb.new _ _ _ _ rfl).more _⟩
    have HBx3 : Kept (Hz ((w3.alloc (.cells #[.bool sa3, .slice ao3 ka3 ca3] 30)).alloc (.cells #[.bool sb3, .slice bo3 kb3 cb3] 25)) (w3.heap.size + 1) (.bool sb3) (.slice bo3 kb3 cb3)) := ⟨Hz.new _ _ _ _ (by simp)⟩
    have HAL3 := Kept.mk hal3
    clear hal3
    clear HBa3 HBx3 HY3 HAL3
    go_wp2_with fail
    refine (awake_any _).mono ?_
    rintro e w4 ⟨hb4, he4⟩
    subst he4
    replace HW := Kept.mk (HW.out.trans (Below.mono hb4 HW.out.size))
    clear hb4 
    go_wp2
    go_ret
    exact ⟨HW.out, rfl⟩
  · skip
    obtain ⟨z1, hz1, hl1, hsm1, hI1, hZ1⟩ := HY1.out rfl
    have HZ1 := Kept.mk hz1
    have HL1 := Kept.mk hl1
    have HSM1 := Kept.mk hsm1
    have HIa := Kept.mk (hI1.below HAL1.out)
    have HIx := Kept.mk (hZ1.below HAL1.out)
    have HBa := HBa1
    have HBx := HBx1
    clear hz1 hl1 hsm1 hI1 hZ1 HBa1 HBx1 HY1 HAL1
    go_wp2_with fail
    refine (whole_any t _ ht).mono ?_
    rintro e w2 ⟨hb2, sa2, ao2, ka2, ca2, sb2, bo2, kb2, cb2, ok2, rfl, hy2⟩
    replace HBa := Kept.mk (HBa.out.below hb2)
    replace HIa := Kept.mk (HIa.out.below hb2)
    replace HBx := Kept.mk (HBx.out.below hb2)
    replace HIx := Kept.mk (HIx.out.below hb2)
    replace HW := Kept.mk (HW.out.trans (Below.mono hb2 HW.out.size))
    have HY2 := Kept.mk hy2
    clear hb2 hy2
    have hal2 : Below w2.heap.size w2 ((w2.alloc (.cells #[.bool sa2, .slice ao2 ka2 ca2] 30)).alloc (.cells #[.bool sb2, .slice bo2 kb2 cb2] 25)) := ((Below.refl _ _).alloc (Nat.le_refl _) _).alloc (by simp) _
    replace HBa := Kept.mk (HBa.out.below hal2)
    replace HIa := Kept.mk (HIa.out.below hal2)
    replace HBx := Kept.mk (HBx.out.below hal2)
    replace HIx := Kept.mk (HIx.out.below hal2)
    replace HW := Kept.mk (HW.out.trans (Below.mono hal2 HW.out.size))
    have HBa2 : Kept (Hb ((w2.alloc (.cells #[.bool sa2, .slice ao2 ka2 ca2] 30)).alloc (.cells #[.bool sb2, .slice bo2 kb2 cb2] 25)) w2.heap.size (.bool sa2) (.slice ao2 ka2 ca2)) := ⟨(Hb.new _ _ _ _ rfl).more _⟩
    have HBx2 : Kept (Hz ((w2.alloc (.cells #[.bool sa2, .slice ao2 ka2 ca2] 30)).alloc (.cells #[.bool sb2, .slice bo2 kb2 cb2] 25)) (w2.heap.size + 1) (.bool sb2) (.slice bo2 kb2 cb2)) := ⟨Hz.new _ _ _ _ (by simp)⟩
    have HAL2 := Kept.mk hal2
    clear hal2
    cases ok2
    · skip
      clear HBa2 HBx2 HY2 HAL2
      go_wp2_with fail
      refine (whole_any u _ hu).mono ?_
      rintro e w3 ⟨hb3, sa3, ao3, ka3, ca3, sb3, bo3, kb3, cb3, ok3, rfl, hy3⟩
      replace HBa := Kept.mk (HBa.out.below hb3)
      replace HIa := Kept.mk (HIa.out.below hb3)
      replace HBx := Kept.mk (HBx.out.below hb3)
      replace HIx := Kept.mk (HIx.out.below hb3)
      replace HW := Kept.mk (HW.out.trans (Below.mono hb3 HW.out.size))
      have HY3 := Kept.mk hy3
      clear hb3 hy3
      have hal3 : Below w3.heap.size w3 ((w3.alloc (.cells #[.bool sa3, .slice ao3 ka3 ca3] 30)).alloc (.cells #[.bool sb3, .slice bo3 kb3 cb3] 25)) := ((Below.refl _ _).alloc (Nat.le_refl _) _).alloc (by simp) _
      replace HBa := Kept.mk (HBa.out.below hal3)
      replace HIa := Kept.mk (HIa.out.below hal3)
      replace HBx := Kept.mk (HBx.out.below hal3)
      replace HIx := Kept.mk (HIx.out.below hal3)
      replace HW := Kept.mk (HW.out.trans (Below.mono hal3 HW.out.size))
      have HBa3 : Kept (Hb ((w3.alloc (.cells #[.bool sa3, .slice ao3 ka3 ca3] 30)).alloc (.cells #[.bool sb3, .slice bo3 kb3 cb3] 25)) w3.heap.size (.bool sa3) (.slice ao3 ka3 ca3)) := ⟨(Hb.new _ _ _ _ rfl).more _⟩
      have HBx3 : Kept (Hz ((w3.alloc (.cells #[.bool sa3, .slice ao3 ka3 ca3] 30)).alloc (.cells #[.bool sb3, .slice bo3 kb3 cb3] 25)) (w3.heap.size + 1) (.bool sb3) (.slice bo3 kb3 cb3)) := ⟨Hz.new _ _ _ _ (by simp)⟩
      have HAL3 := Kept.mk hal3
      clear hal3
      clear HBa3 HBx3 HY3 HAL3
      go_wp2_with fail
      refine (awake_any _).mono ?_
      rintro e w4 ⟨hb4, he4⟩
      subst he4
      replace HBa := Kept.mk (HBa.out.below hb4)
      replace HIa := Kept.mk (HIa.out.below hb4)
      replace HBx := Kept.mk (HBx.out.below hb4)
      replace HIx := Kept.mk (HIx.out.below hb4)
      replace HW := Kept.mk (HW.out.trans (Below.mono hb4 HW.out.size))
      clear hb4 
      go_wp2
      go_ret
      exact ⟨HW.out, rfl⟩
    · skip
      obtain ⟨z2, hz2, hl2, hsm2, hI2, hZ2⟩ := HY2.out rfl
      have HZ2 := Kept.mk hz2
      have HL2 := Kept.mk hl2
      have HSM2 := Kept.mk hsm2
      have HIb := Kept.mk (hI2.below HAL2.out)
      have HIy := Kept.mk (hZ2.below HAL2.out)
      have HBb := HBa2
      have HBy := HBx2
      clear hz2 hl2 hsm2 hI2 hZ2 HBa2 HBx2 HY2 HAL2
      go_wp2_with fail
      refine (whole_any u _ hu).mono ?_
      rintro e w3 ⟨hb3, sa3, ao3, ka3, ca3, sb3, bo3, kb3, cb3, ok3, rfl, hy3⟩
      replace HBa := Kept.mk (HBa.out.below hb3)
      replace HIa := Kept.mk (HIa.out.below hb3)
      replace HBx := Kept.mk (HBx.out.below hb3)
      replace HIx := Kept.mk (HIx.out.below hb3)
      replace HBb := Kept.mk (HBb.out.below hb3)
      replace HIb := Kept.mk (HIb.out.below hb3)
      replace HBy := Kept.mk (HBy.out.below hb3)
      replace HIy := Kept.mk (HIy.out.below hb3)
      replace HW := Kept.mk (HW.out.trans (Below.mono hb3 HW.out.size))
      have HY3 := Kept.mk hy3
      clear hb3 hy3
      have hal3 : Below w3.heap.size w3 ((w3.alloc (.cells #[.bool sa3, .slice ao3 ka3 ca3] 30)).alloc (.cells #[.bool sb3, .slice bo3 kb3 cb3] 25)) := ((Below.refl _ _).alloc (Nat.le_refl _) _).alloc (by simp) _
      replace HBa := Kept.mk (HBa.out.below hal3)
      replace HIa := Kept.mk (HIa.out.below hal3)
      replace HBx := Kept.mk (HBx.out.below hal3)
      replace HIx := Kept.mk (HIx.out.below hal3)
      replace HBb := Kept.mk (HBb.out.below hal3)
      replace HIb := Kept.mk (HIb.out.below hal3)
      replace HBy := Kept.mk (HBy.out.below hal3)
      replace HIy := Kept.mk (HIy.out.below hal3)
      replace HW := Kept.mk (HW.out.trans (Below.mono hal3 HW.out.size))
      have HBa3 : Kept (Hb ((w3.alloc (.cells #[.bool sa3, .slice ao3 ka3 ca3] 30)).alloc (.cells #[.bool sb3, .slice bo3 kb3 cb3] 25)) w3.heap.size (.bool sa3) (.slice ao3 ka3 ca3)) := ⟨(Hb.new _ _ _ _ rfl).more _⟩
      have HBx3 : Kept (Hz ((w3.alloc (.cells #[.bool sa3, .slice ao3 ka3 ca3] 30)).alloc (.cells #[.bool sb3, .slice bo3 kb3 cb3] 25)) (w3.heap.size + 1) (.bool sb3) (.slice bo3 kb3 cb3)) := ⟨Hz.new _ _ _ _ (by simp)⟩
      have HAL3 := Kept.mk hal3
      clear hal3
      cases ok3
      · skip
        clear HBa3 HBx3 HY3 HAL3
        go_wp2_with fail
        refine (awake_any _).mono ?_
        rintro e w4 ⟨hb4, he4⟩
        subst he4
        replace HBa := Kept.mk (HBa.out.below hb4)
        replace HIa := Kept.mk (HIa.out.below hb4)
        replace HBx := Kept.mk (HBx.out.below hb4)
        replace HIx := Kept.mk (HIx.out.below hb4)
        replace HBb := Kept.mk (HBb.out.below hb4)
        replace HIb := Kept.mk (HIb.out.below hb4)
        replace HBy := Kept.mk (HBy.out.below hb4)
        replace HIy := Kept.mk (HIy.out.below hb4)
        replace HW := Kept.mk (HW.out.trans (Below.mono hb4 HW.out.size))
        clear hb4 
        go_wp2
        go_ret
        exact ⟨HW.out, rfl⟩
      · skip
        obtain ⟨z3, hz3, hl3, hsm3, hI3, hZ3⟩ := HY3.out rfl
        have HZ3 := Kept.mk hz3
        have HL3 := Kept.mk hl3
        have HSM3 := Kept.mk hsm3
        have HIc := Kept.mk (hI3.below HAL3.out)
        have HIv := Kept.mk (hZ3.below HAL3.out)
        have HBc := HBa3
        have HBv := HBx3
        clear hz3 hl3 hsm3 hI3 hZ3 HBa3 HBx3 HY3 HAL3
        clear HIx HBx
        clear HIy HBy
        clear HIv HBv
        by_cases h9 : (s.size : Int) + t.size + u.size ≤ 900
        · skip
          have hd9 : decide ((900 : Int) < (s.size : Int) + t.size + u.size) = false := decide_eq_false (by omega)
          have HB09 := Kept.mk (dec_bound (n := 900) (z := z1) (by rw [← HZ1.out]; have hl : s.data.toList.length = s.size := Array.length_toList; omega))
          have HB19 := Kept.mk (dec_bound (n := 900) (z := z2) (by rw [← HZ2.out]; have hl : t.data.toList.length = t.size := Array.length_toList; omega))
          have HB29 := Kept.mk (dec_bound (n := 900) (z := z3) (by rw [← HZ3.out]; have hl : u.data.toList.length = u.size := Array.length_toList; omega))
          have HSM := Kept.mk (ring_sm HB09.out HB19.out HB29.out)
          clear h9
          obtain ⟨p5, q5, -, -⟩ := two_cells HBa.out
          obtain ⟨p6, q6, -, -⟩ := two_cells HBb.out
          go_wp2_with fail
          refine (add_any HIa.out HIb.out (by decide) (by decide)).mono ?_
          rintro e w4 hR
          obtain ⟨hb4, s4, o4, k4, c4, rfl, hI4⟩ := hR.yes HSM.out.ab
          replace HBa := Kept.mk (HBa.out.below hb4)
          replace HIa := Kept.mk (HIa.out.below hb4)
          replace HBb := Kept.mk (HBb.out.below hb4)
          replace HIb := Kept.mk (HIb.out.below hb4)
          replace HBc := Kept.mk (HBc.out.below hb4)
          replace HIc := Kept.mk (HIc.out.below hb4)
          replace HW := Kept.mk (HW.out.trans (Below.mono hb4 HW.out.size))
          clear hb4 p5 q5 p6 q6 hR
          have hal7 : Below w4.heap.size w4 (w4.alloc (.cells #[.bool s4, .slice o4 k4 c4] 30)) := (Below.refl _ _).alloc (Nat.le_refl _) _
          replace HBa := Kept.mk (HBa.out.below hal7)
          replace HIa := Kept.mk (HIa.out.below hal7)
          replace HBb := Kept.mk (HBb.out.below hal7)
          replace HIb := Kept.mk (HIb.out.below hal7)
          replace HBc := Kept.mk (HBc.out.below hal7)
          replace HIc := Kept.mk (HIc.out.below hal7)
          replace HW := Kept.mk (HW.out.trans (Below.mono hal7 HW.out.size))
          have HBab : Kept (Hb (w4.alloc (.cells #[.bool s4, .slice o4 k4 c4] 30)) w4.heap.size (.bool s4) (.slice o4 k4 c4)) := ⟨Hb.new _ _ _ _ rfl⟩
          have HIab : Kept (IntV 625 (w4.alloc (.cells #[.bool s4, .slice o4 k4 c4] 30)) (.agg #[.bool s4, .slice o4 k4 c4]) (z1 + z2)) := ⟨hI4.below hal7⟩
          clear hal7 hI4
          obtain ⟨p9, q9, -, -⟩ := two_cells HBb.out
          obtain ⟨p10, q10, -, -⟩ := two_cells HBa.out
          go_wp2_with fail
          refine (add_any HIb.out HIa.out (by decide) (by decide)).mono ?_
          rintro e w8 hR
          obtain ⟨hb8, s8, o8, k8, c8, rfl, hI8⟩ := hR.yes HSM.out.ba
          replace HBa := Kept.mk (HBa.out.below hb8)
          replace HIa := Kept.mk (HIa.out.below hb8)
          replace HBb := Kept.mk (HBb.out.below hb8)
          replace HIb := Kept.mk (HIb.out.below hb8)
          replace HBc := Kept.mk (HBc.out.below hb8)
          replace HIc := Kept.mk (HIc.out.below hb8)
          replace HBab := Kept.mk (HBab.out.below hb8)
          replace HIab := Kept.mk (HIab.out.below hb8)
          replace HW := Kept.mk (HW.out.trans (Below.mono hb8 HW.out.size))
          clear hb8 p9 q9 p10 q10 hR
          have hal11 : Below w8.heap.size w8 (w8.alloc (.cells #[.bool s8, .slice o8 k8 c8] 30)) := (Below.refl _ _).alloc (Nat.le_refl _) _
          replace HBa := Kept.mk (HBa.out.below hal11)
          replace HIa := Kept.mk (HIa.out.below hal11)
          replace HBb := Kept.mk (HBb.out.below hal11)
          replace HIb := Kept.mk (HIb.out.below hal11)
          replace HBc := Kept.mk (HBc.out.below hal11)
          replace HIc := Kept.mk (HIc.out.below hal11)
          replace HBab := Kept.mk (HBab.out.below hal11)
          replace HIab := Kept.mk (HIab.out.below hal11)
          replace HW := Kept.mk (HW.out.trans (Below.mono hal11 HW.out.size))
          have HBba : Kept (Hb (w8.alloc (.cells #[.bool s8, .slice o8 k8 c8] 30)) w8.heap.size (.bool s8) (.slice o8 k8 c8)) := ⟨Hb.new _ _ _ _ rfl⟩
          have HIba : Kept (IntV 625 (w8.alloc (.cells #[.bool s8, .slice o8 k8 c8] 30)) (.agg #[.bool s8, .slice o8 k8 c8]) (z2 + z1)) := ⟨hI8.below hal11⟩
          clear hal11 hI8
          obtain ⟨p13, q13, -, -⟩ := two_cells HBab.out
          obtain ⟨p14, q14, -, -⟩ := two_cells HBc.out
          go_wp2_with fail
          refine (add_any HIab.out HIc.out (by decide) (by decide)).mono ?_
          rintro e w12 hR
          obtain ⟨hb12, s12, o12, k12, c12, rfl, hI12⟩ := hR.yes HSM.out.abc
          replace HBa := Kept.mk (HBa.out.below hb12)
          replace HIa := Kept.mk (HIa.out.below hb12)
          replace HBb := Kept.mk (HBb.out.below hb12)
          replace HIb := Kept.mk (HIb.out.below hb12)
          replace HBc := Kept.mk (HBc.out.below hb12)
          replace HIc := Kept.mk (HIc.out.below hb12)
          replace HBab := Kept.mk (HBab.out.below hb12)
          replace HIab := Kept.mk (HIab.out.below hb12)
          replace HBba := Kept.mk (HBba.out.below hb12)
          replace HIba := Kept.mk (HIba.out.below hb12)
          replace HW := Kept.mk (HW.out.trans (Below.mono hb12 HW.out.size))
          clear hb12 p13 q13 p14 q14 hR
          have hal15 : Below w12.heap.size w12 (w12.alloc (.cells #[.bool s12, .slice o12 k12 c12] 30)) := (Below.refl _ _).alloc (Nat.le_refl _) _
          replace HBa := Kept.mk (HBa.out.below hal15)
          replace HIa := Kept.mk (HIa.out.below hal15)
          replace HBb := Kept.mk (HBb.out.below hal15)
          replace HIb := Kept.mk (HIb.out.below hal15)
          replace HBc := Kept.mk (HBc.out.below hal15)
          replace HIc := Kept.mk (HIc.out.below hal15)
          replace HBab := Kept.mk (HBab.out.below hal15)
          replace HIab := Kept.mk (HIab.out.below hal15)
          replace HBba := Kept.mk (HBba.out.below hal15)
          replace HIba := Kept.mk (HIba.out.below hal15)
          replace HW := Kept.mk (HW.out.trans (Below.mono hal15 HW.out.size))
          have HBabc : Kept (Hb (w12.alloc (.cells #[.bool s12, .slice o12 k12 c12] 30)) w12.heap.size (.bool s12) (.slice o12 k12 c12)) := ⟨Hb.new _ _ _ _ rfl⟩
          have HIabc : Kept (IntV 625 (w12.alloc (.cells #[.bool s12, .slice o12 k12 c12] 30)) (.agg #[.bool s12, .slice o12 k12 c12]) (z1 + z2 + z3)) := ⟨hI12.below hal15⟩
          clear hal15 hI12
          obtain ⟨p17, q17, -, -⟩ := two_cells HBb.out
          obtain ⟨p18, q18, -, -⟩ := two_cells HBc.out
          go_wp2_with fail
          refine (add_any HIb.out HIc.out (by decide) (by decide)).mono ?_
          rintro e w16 hR
          obtain ⟨hb16, s16, o16, k16, c16, rfl, hI16⟩ := hR.yes HSM.out.bc
          replace HBa := Kept.mk (HBa.out.below hb16)
          replace HIa := Kept.mk (HIa.out.below hb16)
          replace HBb := Kept.mk (HBb.out.below hb16)
          replace HIb := Kept.mk (HIb.out.below hb16)
          replace HBc := Kept.mk (HBc.out.below hb16)
          replace HIc := Kept.mk (HIc.out.below hb16)
          replace HBab := Kept.mk (HBab.out.below hb16)
          replace HIab := Kept.mk (HIab.out.below hb16)
          replace HBba := Kept.mk (HBba.out.below hb16)
          replace HIba := Kept.mk (HIba.out.below hb16)
          replace HBabc := Kept.mk (HBabc.out.below hb16)
          replace HIabc := Kept.mk (HIabc.out.below hb16)
          replace HW := Kept.mk (HW.out.trans (Below.mono hb16 HW.out.size))
          clear hb16 p17 q17 p18 q18 hR
          have hal19 : Below w16.heap.size w16 (w16.alloc (.cells #[.bool s16, .slice o16 k16 c16] 30)) := (Below.refl _ _).alloc (Nat.le_refl _) _
          replace HBa := Kept.mk (HBa.out.below hal19)
          replace HIa := Kept.mk (HIa.out.below hal19)
          replace HBb := Kept.mk (HBb.out.below hal19)
          replace HIb := Kept.mk (HIb.out.below hal19)
          replace HBc := Kept.mk (HBc.out.below hal19)
          replace HIc := Kept.mk (HIc.out.below hal19)
          replace HBab := Kept.mk (HBab.out.below hal19)
          replace HIab := Kept.mk (HIab.out.below hal19)
          replace HBba := Kept.mk (HBba.out.below hal19)
          replace HIba := Kept.mk (HIba.out.below hal19)
          replace HBabc := Kept.mk (HBabc.out.below hal19)
          replace HIabc := Kept.mk (HIabc.out.below hal19)
          replace HW := Kept.mk (HW.out.trans (Below.mono hal19 HW.out.size))
          have HBbc : Kept (Hb (w16.alloc (.cells #[.bool s16, .slice o16 k16 c16] 30)) w16.heap.size (.bool s16) (.slice o16 k16 c16)) := ⟨Hb.new _ _ _ _ rfl⟩
          have HIbc : Kept (IntV 625 (w16.alloc (.cells #[.bool s16, .slice o16 k16 c16] 30)) (.agg #[.bool s16, .slice o16 k16 c16]) (z2 + z3)) := ⟨hI16.below hal19⟩
          clear hal19 hI16
          obtain ⟨p21, q21, -, -⟩ := two_cells HBa.out
          obtain ⟨p22, q22, -, -⟩ := two_cells HBbc.out
          go_wp2_with fail
          refine (add_any HIa.out HIbc.out (by decide) (by decide)).mono ?_
          rintro e w20 hR
          obtain ⟨hb20, s20, o20, k20, c20, rfl, hI20⟩ := hR.yes HSM.out.cab
          replace HBa := Kept.mk (HBa.out.below hb20)
          replace HIa := Kept.mk (HIa.out.below hb20)
          replace HBb := Kept.mk (HBb.out.below hb20)
          replace HIb := Kept.mk (HIb.out.below hb20)
          replace HBc := Kept.mk (HBc.out.below hb20)
          replace HIc := Kept.mk (HIc.out.below hb20)
          replace HBab := Kept.mk (HBab.out.below hb20)
          replace HIab := Kept.mk (HIab.out.below hb20)
          replace HBba := Kept.mk (HBba.out.below hb20)
          replace HIba := Kept.mk (HIba.out.below hb20)
          replace HBabc := Kept.mk (HBabc.out.below hb20)
          replace HIabc := Kept.mk (HIabc.out.below hb20)
          replace HBbc := Kept.mk (HBbc.out.below hb20)
          replace HIbc := Kept.mk (HIbc.out.below hb20)
          replace HW := Kept.mk (HW.out.trans (Below.mono hb20 HW.out.size))
          clear hb20 p21 q21 p22 q22 hR
          have hal23 : Below w20.heap.size w20 (w20.alloc (.cells #[.bool s20, .slice o20 k20 c20] 30)) := (Below.refl _ _).alloc (Nat.le_refl _) _
          replace HBa := Kept.mk (HBa.out.below hal23)
          replace HIa := Kept.mk (HIa.out.below hal23)
          replace HBb := Kept.mk (HBb.out.below hal23)
          replace HIb := Kept.mk (HIb.out.below hal23)
          replace HBc := Kept.mk (HBc.out.below hal23)
          replace HIc := Kept.mk (HIc.out.below hal23)
          replace HBab := Kept.mk (HBab.out.below hal23)
          replace HIab := Kept.mk (HIab.out.below hal23)
          replace HBba := Kept.mk (HBba.out.below hal23)
          replace HIba := Kept.mk (HIba.out.below hal23)
          replace HBabc := Kept.mk (HBabc.out.below hal23)
          replace HIabc := Kept.mk (HIabc.out.below hal23)
          replace HBbc := Kept.mk (HBbc.out.below hal23)
          replace HIbc := Kept.mk (HIbc.out.below hal23)
          replace HW := Kept.mk (HW.out.trans (Below.mono hal23 HW.out.size))
          have HBcab : Kept (Hb (w20.alloc (.cells #[.bool s20, .slice o20 k20 c20] 30)) w20.heap.size (.bool s20) (.slice o20 k20 c20)) := ⟨Hb.new _ _ _ _ rfl⟩
          have HIcab : Kept (IntV 625 (w20.alloc (.cells #[.bool s20, .slice o20 k20 c20] 30)) (.agg #[.bool s20, .slice o20 k20 c20]) (z1 + (z2 + z3))) := ⟨hI20.below hal23⟩
          clear hal23 hI20
          skip
          obtain ⟨p25, q25, -, -⟩ := two_cells HBa.out
          obtain ⟨p26, q26, -, -⟩ := two_cells HBbc.out
          go_wp2_with fail
          refine (mul_any HIa.out HIbc.out (by decide) (by decide)).mono ?_
          rintro e w24 hR
          obtain ⟨hb24, s24, o24, k24, c24, rfl, hI24⟩ := hR.yes HSM.out.p
          replace HBa := Kept.mk (HBa.out.below hb24)
          replace HIa := Kept.mk (HIa.out.below hb24)
          replace HBb := Kept.mk (HBb.out.below hb24)
          replace HIb := Kept.mk (HIb.out.below hb24)
          replace HBc := Kept.mk (HBc.out.below hb24)
          replace HIc := Kept.mk (HIc.out.below hb24)
          replace HBab := Kept.mk (HBab.out.below hb24)
          replace HIab := Kept.mk (HIab.out.below hb24)
          replace HBba := Kept.mk (HBba.out.below hb24)
          replace HIba := Kept.mk (HIba.out.below hb24)
          replace HBabc := Kept.mk (HBabc.out.below hb24)
          replace HIabc := Kept.mk (HIabc.out.below hb24)
          replace HBbc := Kept.mk (HBbc.out.below hb24)
          replace HIbc := Kept.mk (HIbc.out.below hb24)
          replace HBcab := Kept.mk (HBcab.out.below hb24)
          replace HIcab := Kept.mk (HIcab.out.below hb24)
          replace HW := Kept.mk (HW.out.trans (Below.mono hb24 HW.out.size))
          clear hb24 p25 q25 p26 q26 hR
          have hal27 : Below w24.heap.size w24 (w24.alloc (.cells #[.bool s24, .slice o24 k24 c24] 30)) := (Below.refl _ _).alloc (Nat.le_refl _) _
          replace HBa := Kept.mk (HBa.out.below hal27)
          replace HIa := Kept.mk (HIa.out.below hal27)
          replace HBb := Kept.mk (HBb.out.below hal27)
          replace HIb := Kept.mk (HIb.out.below hal27)
          replace HBc := Kept.mk (HBc.out.below hal27)
          replace HIc := Kept.mk (HIc.out.below hal27)
          replace HBab := Kept.mk (HBab.out.below hal27)
          replace HIab := Kept.mk (HIab.out.below hal27)
          replace HBba := Kept.mk (HBba.out.below hal27)
          replace HIba := Kept.mk (HIba.out.below hal27)
          replace HBabc := Kept.mk (HBabc.out.below hal27)
          replace HIabc := Kept.mk (HIabc.out.below hal27)
          replace HBbc := Kept.mk (HBbc.out.below hal27)
          replace HIbc := Kept.mk (HIbc.out.below hal27)
          replace HBcab := Kept.mk (HBcab.out.below hal27)
          replace HIcab := Kept.mk (HIcab.out.below hal27)
          replace HW := Kept.mk (HW.out.trans (Below.mono hal27 HW.out.size))
          have HBp : Kept (Hb (w24.alloc (.cells #[.bool s24, .slice o24 k24 c24] 30)) w24.heap.size (.bool s24) (.slice o24 k24 c24)) := ⟨Hb.new _ _ _ _ rfl⟩
          have HIp : Kept (IntV 625 (w24.alloc (.cells #[.bool s24, .slice o24 k24 c24] 30)) (.agg #[.bool s24, .slice o24 k24 c24]) (z1 * (z2 + z3))) := ⟨hI24.below hal27⟩
          clear hal27 hI24
          obtain ⟨p29, q29, -, -⟩ := two_cells HBa.out
          obtain ⟨p30, q30, -, -⟩ := two_cells HBb.out
          go_wp2_with fail
          refine (mul_any HIa.out HIb.out (by decide) (by decide)).mono ?_
          rintro e w28 hR
          obtain ⟨hb28, s28, o28, k28, c28, rfl, hI28⟩ := hR.yes HSM.out.q
          replace HBa := Kept.mk (HBa.out.below hb28)
          replace HIa := Kept.mk (HIa.out.below hb28)
          replace HBb := Kept.mk (HBb.out.below hb28)
          replace HIb := Kept.mk (HIb.out.below hb28)
          replace HBc := Kept.mk (HBc.out.below hb28)
          replace HIc := Kept.mk (HIc.out.below hb28)
          replace HBab := Kept.mk (HBab.out.below hb28)
          replace HIab := Kept.mk (HIab.out.below hb28)
          replace HBba := Kept.mk (HBba.out.below hb28)
          replace HIba := Kept.mk (HIba.out.below hb28)
          replace HBabc := Kept.mk (HBabc.out.below hb28)
          replace HIabc := Kept.mk (HIabc.out.below hb28)
          replace HBbc := Kept.mk (HBbc.out.below hb28)
          replace HIbc := Kept.mk (HIbc.out.below hb28)
          replace HBcab := Kept.mk (HBcab.out.below hb28)
          replace HIcab := Kept.mk (HIcab.out.below hb28)
          replace HBp := Kept.mk (HBp.out.below hb28)
          replace HIp := Kept.mk (HIp.out.below hb28)
          replace HW := Kept.mk (HW.out.trans (Below.mono hb28 HW.out.size))
          clear hb28 p29 q29 p30 q30 hR
          have hal31 : Below w28.heap.size w28 (w28.alloc (.cells #[.bool s28, .slice o28 k28 c28] 30)) := (Below.refl _ _).alloc (Nat.le_refl _) _
          replace HBa := Kept.mk (HBa.out.below hal31)
          replace HIa := Kept.mk (HIa.out.below hal31)
          replace HBb := Kept.mk (HBb.out.below hal31)
          replace HIb := Kept.mk (HIb.out.below hal31)
          replace HBc := Kept.mk (HBc.out.below hal31)
          replace HIc := Kept.mk (HIc.out.below hal31)
          replace HBab := Kept.mk (HBab.out.below hal31)
          replace HIab := Kept.mk (HIab.out.below hal31)
          replace HBba := Kept.mk (HBba.out.below hal31)
          replace HIba := Kept.mk (HIba.out.below hal31)
          replace HBabc := Kept.mk (HBabc.out.below hal31)
          replace HIabc := Kept.mk (HIabc.out.below hal31)
          replace HBbc := Kept.mk (HBbc.out.below hal31)
          replace HIbc := Kept.mk (HIbc.out.below hal31)
          replace HBcab := Kept.mk (HBcab.out.below hal31)
          replace HIcab := Kept.mk (HIcab.out.below hal31)
          replace HBp := Kept.mk (HBp.out.below hal31)
          replace HIp := Kept.mk (HIp.out.below hal31)
          replace HW := Kept.mk (HW.out.trans (Below.mono hal31 HW.out.size))
          have HBq : Kept (Hb (w28.alloc (.cells #[.bool s28, .slice o28 k28 c28] 30)) w28.heap.size (.bool s28) (.slice o28 k28 c28)) := ⟨Hb.new _ _ _ _ rfl⟩
          have HIq : Kept (IntV 625 (w28.alloc (.cells #[.bool s28, .slice o28 k28 c28] 30)) (.agg #[.bool s28, .slice o28 k28 c28]) (z1 * z2)) := ⟨hI28.below hal31⟩
          clear hal31 hI28
          obtain ⟨p33, q33, -, -⟩ := two_cells HBa.out
          obtain ⟨p34, q34, -, -⟩ := two_cells HBc.out
          go_wp2_with fail
          refine (mul_any HIa.out HIc.out (by decide) (by decide)).mono ?_
          rintro e w32 hR
          obtain ⟨hb32, s32, o32, k32, c32, rfl, hI32⟩ := hR.yes HSM.out.r
          replace HBa := Kept.mk (HBa.out.below hb32)
          replace HIa := Kept.mk (HIa.out.below hb32)
          replace HBb := Kept.mk (HBb.out.below hb32)
          replace HIb := Kept.mk (HIb.out.below hb32)
          replace HBc := Kept.mk (HBc.out.below hb32)
          replace HIc := Kept.mk (HIc.out.below hb32)
          replace HBab := Kept.mk (HBab.out.below hb32)
          replace HIab := Kept.mk (HIab.out.below hb32)
          replace HBba := Kept.mk (HBba.out.below hb32)
          replace HIba := Kept.mk (HIba.out.below hb32)
          replace HBabc := Kept.mk (HBabc.out.below hb32)
          replace HIabc := Kept.mk (HIabc.out.below hb32)
          replace HBbc := Kept.mk (HBbc.out.below hb32)
          replace HIbc := Kept.mk (HIbc.out.below hb32)
          replace HBcab := Kept.mk (HBcab.out.below hb32)
          replace HIcab := Kept.mk (HIcab.out.below hb32)
          replace HBp := Kept.mk (HBp.out.below hb32)
          replace HIp := Kept.mk (HIp.out.below hb32)
          replace HBq := Kept.mk (HBq.out.below hb32)
          replace HIq := Kept.mk (HIq.out.below hb32)
          replace HW := Kept.mk (HW.out.trans (Below.mono hb32 HW.out.size))
          clear hb32 p33 q33 p34 q34 hR
          have hal35 : Below w32.heap.size w32 (w32.alloc (.cells #[.bool s32, .slice o32 k32 c32] 30)) := (Below.refl _ _).alloc (Nat.le_refl _) _
          replace HBa := Kept.mk (HBa.out.below hal35)
          replace HIa := Kept.mk (HIa.out.below hal35)
          replace HBb := Kept.mk (HBb.out.below hal35)
          replace HIb := Kept.mk (HIb.out.below hal35)
          replace HBc := Kept.mk (HBc.out.below hal35)
          replace HIc := Kept.mk (HIc.out.below hal35)
          replace HBab := Kept.mk (HBab.out.below hal35)
          replace HIab := Kept.mk (HIab.out.below hal35)
          replace HBba := Kept.mk (HBba.out.below hal35)
          replace HIba := Kept.mk (HIba.out.below hal35)
          replace HBabc := Kept.mk (HBabc.out.below hal35)
          replace HIabc := Kept.mk (HIabc.out.below hal35)
          replace HBbc := Kept.mk (HBbc.out.below hal35)
          replace HIbc := Kept.mk (HIbc.out.below hal35)
          replace HBcab := Kept.mk (HBcab.out.below hal35)
          replace HIcab := Kept.mk (HIcab.out.below hal35)
          replace HBp := Kept.mk (HBp.out.below hal35)
          replace HIp := Kept.mk (HIp.out.below hal35)
          replace HBq := Kept.mk (HBq.out.below hal35)
          replace HIq := Kept.mk (HIq.out.below hal35)
          replace HW := Kept.mk (HW.out.trans (Below.mono hal35 HW.out.size))
          have HBr : Kept (Hb (w32.alloc (.cells #[.bool s32, .slice o32 k32 c32] 30)) w32.heap.size (.bool s32) (.slice o32 k32 c32)) := ⟨Hb.new _ _ _ _ rfl⟩
          have HIr : Kept (IntV 625 (w32.alloc (.cells #[.bool s32, .slice o32 k32 c32] 30)) (.agg #[.bool s32, .slice o32 k32 c32]) (z1 * z3)) := ⟨hI32.below hal35⟩
          clear hal35 hI32
          obtain ⟨p37, q37, -, -⟩ := two_cells HBq.out
          obtain ⟨p38, q38, -, -⟩ := two_cells HBr.out
          go_wp2_with fail
          refine (add_any HIq.out HIr.out (by decide) (by decide)).mono ?_
          rintro e w36 hR
          obtain ⟨hb36, s36, o36, k36, c36, rfl, hI36⟩ := hR.yes HSM.out.sum
          replace HBa := Kept.mk (HBa.out.below hb36)
          replace HIa := Kept.mk (HIa.out.below hb36)
          replace HBb := Kept.mk (HBb.out.below hb36)
          replace HIb := Kept.mk (HIb.out.below hb36)
          replace HBc := Kept.mk (HBc.out.below hb36)
          replace HIc := Kept.mk (HIc.out.below hb36)
          replace HBab := Kept.mk (HBab.out.below hb36)
          replace HIab := Kept.mk (HIab.out.below hb36)
          replace HBba := Kept.mk (HBba.out.below hb36)
          replace HIba := Kept.mk (HIba.out.below hb36)
          replace HBabc := Kept.mk (HBabc.out.below hb36)
          replace HIabc := Kept.mk (HIabc.out.below hb36)
          replace HBbc := Kept.mk (HBbc.out.below hb36)
          replace HIbc := Kept.mk (HIbc.out.below hb36)
          replace HBcab := Kept.mk (HBcab.out.below hb36)
          replace HIcab := Kept.mk (HIcab.out.below hb36)
          replace HBp := Kept.mk (HBp.out.below hb36)
          replace HIp := Kept.mk (HIp.out.below hb36)
          replace HBq := Kept.mk (HBq.out.below hb36)
          replace HIq := Kept.mk (HIq.out.below hb36)
          replace HBr := Kept.mk (HBr.out.below hb36)
          replace HIr := Kept.mk (HIr.out.below hb36)
          replace HW := Kept.mk (HW.out.trans (Below.mono hb36 HW.out.size))
          clear hb36 p37 q37 p38 q38 hR
          have hal39 : Below w36.heap.size w36 (w36.alloc (.cells #[.bool s36, .slice o36 k36 c36] 30)) := (Below.refl _ _).alloc (Nat.le_refl _) _
          replace HBa := Kept.mk (HBa.out.below hal39)
          replace HIa := Kept.mk (HIa.out.below hal39)
          replace HBb := Kept.mk (HBb.out.below hal39)
          replace HIb := Kept.mk (HIb.out.below hal39)
          replace HBc := Kept.mk (HBc.out.below hal39)
          replace HIc := Kept.mk (HIc.out.below hal39)
          replace HBab := Kept.mk (HBab.out.below hal39)
          replace HIab := Kept.mk (HIab.out.below hal39)
          replace HBba := Kept.mk (HBba.out.below hal39)
          replace HIba := Kept.mk (HIba.out.below hal39)
          replace HBabc := Kept.mk (HBabc.out.below hal39)
          replace HIabc := Kept.mk (HIabc.out.below hal39)
          replace HBbc := Kept.mk (HBbc.out.below hal39)
          replace HIbc := Kept.mk (HIbc.out.below hal39)
          replace HBcab := Kept.mk (HBcab.out.below hal39)
          replace HIcab := Kept.mk (HIcab.out.below hal39)
          replace HBp := Kept.mk (HBp.out.below hal39)
          replace HIp := Kept.mk (HIp.out.below hal39)
          replace HBq := Kept.mk (HBq.out.below hal39)
          replace HIq := Kept.mk (HIq.out.below hal39)
          replace HBr := Kept.mk (HBr.out.below hal39)
          replace HIr := Kept.mk (HIr.out.below hal39)
          replace HW := Kept.mk (HW.out.trans (Below.mono hal39 HW.out.size))
          have HBsum : Kept (Hb (w36.alloc (.cells #[.bool s36, .slice o36 k36 c36] 30)) w36.heap.size (.bool s36) (.slice o36 k36 c36)) := ⟨Hb.new _ _ _ _ rfl⟩
          have HIsum : Kept (IntV 625 (w36.alloc (.cells #[.bool s36, .slice o36 k36 c36] 30)) (.agg #[.bool s36, .slice o36 k36 c36]) (z1 * z2 + z1 * z3)) := ⟨hI36.below hal39⟩
          clear hal39 hI36
          obtain ⟨p41, q41, -, -⟩ := two_cells HBq.out
          obtain ⟨p42, q42, -, -⟩ := two_cells HBc.out
          go_wp2_with fail
          refine (mul_any HIq.out HIc.out (by decide) (by decide)).mono ?_
          rintro e w40 hR
          obtain ⟨hb40, s40, o40, k40, c40, rfl, hI40⟩ := hR.yes HSM.out.qc
          replace HBa := Kept.mk (HBa.out.below hb40)
          replace HIa := Kept.mk (HIa.out.below hb40)
          replace HBb := Kept.mk (HBb.out.below hb40)
          replace HIb := Kept.mk (HIb.out.below hb40)
          replace HBc := Kept.mk (HBc.out.below hb40)
          replace HIc := Kept.mk (HIc.out.below hb40)
          replace HBab := Kept.mk (HBab.out.below hb40)
          replace HIab := Kept.mk (HIab.out.below hb40)
          replace HBba := Kept.mk (HBba.out.below hb40)
          replace HIba := Kept.mk (HIba.out.below hb40)
          replace HBabc := Kept.mk (HBabc.out.below hb40)
          replace HIabc := Kept.mk (HIabc.out.below hb40)
          replace HBbc := Kept.mk (HBbc.out.below hb40)
          replace HIbc := Kept.mk (HIbc.out.below hb40)
          replace HBcab := Kept.mk (HBcab.out.below hb40)
          replace HIcab := Kept.mk (HIcab.out.below hb40)
          replace HBp := Kept.mk (HBp.out.below hb40)
          replace HIp := Kept.mk (HIp.out.below hb40)
          replace HBq := Kept.mk (HBq.out.below hb40)
          replace HIq := Kept.mk (HIq.out.below hb40)
          replace HBr := Kept.mk (HBr.out.below hb40)
          replace HIr := Kept.mk (HIr.out.below hb40)
          replace HBsum := Kept.mk (HBsum.out.below hb40)
          replace HIsum := Kept.mk (HIsum.out.below hb40)
          replace HW := Kept.mk (HW.out.trans (Below.mono hb40 HW.out.size))
          clear hb40 p41 q41 p42 q42 hR
          have hal43 : Below w40.heap.size w40 (w40.alloc (.cells #[.bool s40, .slice o40 k40 c40] 30)) := (Below.refl _ _).alloc (Nat.le_refl _) _
          replace HBa := Kept.mk (HBa.out.below hal43)
          replace HIa := Kept.mk (HIa.out.below hal43)
          replace HBb := Kept.mk (HBb.out.below hal43)
          replace HIb := Kept.mk (HIb.out.below hal43)
          replace HBc := Kept.mk (HBc.out.below hal43)
          replace HIc := Kept.mk (HIc.out.below hal43)
          replace HBab := Kept.mk (HBab.out.below hal43)
          replace HIab := Kept.mk (HIab.out.below hal43)
          replace HBba := Kept.mk (HBba.out.below hal43)
          replace HIba := Kept.mk (HIba.out.below hal43)
          replace HBabc := Kept.mk (HBabc.out.below hal43)
          replace HIabc := Kept.mk (HIabc.out.below hal43)
          replace HBbc := Kept.mk (HBbc.out.below hal43)
          replace HIbc := Kept.mk (HIbc.out.below hal43)
          replace HBcab := Kept.mk (HBcab.out.below hal43)
          replace HIcab := Kept.mk (HIcab.out.below hal43)
          replace HBp := Kept.mk (HBp.out.below hal43)
          replace HIp := Kept.mk (HIp.out.below hal43)
          replace HBq := Kept.mk (HBq.out.below hal43)
          replace HIq := Kept.mk (HIq.out.below hal43)
          replace HBr := Kept.mk (HBr.out.below hal43)
          replace HIr := Kept.mk (HIr.out.below hal43)
          replace HBsum := Kept.mk (HBsum.out.below hal43)
          replace HIsum := Kept.mk (HIsum.out.below hal43)
          replace HW := Kept.mk (HW.out.trans (Below.mono hal43 HW.out.size))
          have HBqc : Kept (Hb (w40.alloc (.cells #[.bool s40, .slice o40 k40 c40] 30)) w40.heap.size (.bool s40) (.slice o40 k40 c40)) := ⟨Hb.new _ _ _ _ rfl⟩
          have HIqc : Kept (IntV 625 (w40.alloc (.cells #[.bool s40, .slice o40 k40 c40] 30)) (.agg #[.bool s40, .slice o40 k40 c40]) (z1 * z2 * z3)) := ⟨hI40.below hal43⟩
          clear hal43 hI40
          obtain ⟨p45, q45, -, -⟩ := two_cells HBb.out
          obtain ⟨p46, q46, -, -⟩ := two_cells HBr.out
          go_wp2_with fail
          refine (mul_any HIb.out HIr.out (by decide) (by decide)).mono ?_
          rintro e w44 hR
          obtain ⟨hb44, s44, o44, k44, c44, rfl, hI44⟩ := hR.yes HSM.out.cr
          replace HBa := Kept.mk (HBa.out.below hb44)
          replace HIa := Kept.mk (HIa.out.below hb44)
          replace HBb := Kept.mk (HBb.out.below hb44)
          replace HIb := Kept.mk (HIb.out.below hb44)
          replace HBc := Kept.mk (HBc.out.below hb44)
          replace HIc := Kept.mk (HIc.out.below hb44)
          replace HBab := Kept.mk (HBab.out.below hb44)
          replace HIab := Kept.mk (HIab.out.below hb44)
          replace HBba := Kept.mk (HBba.out.below hb44)
          replace HIba := Kept.mk (HIba.out.below hb44)
          replace HBabc := Kept.mk (HBabc.out.below hb44)
          replace HIabc := Kept.mk (HIabc.out.below hb44)
          replace HBbc := Kept.mk (HBbc.out.below hb44)
          replace HIbc := Kept.mk (HIbc.out.below hb44)
          replace HBcab := Kept.mk (HBcab.out.below hb44)
          replace HIcab := Kept.mk (HIcab.out.below hb44)
          replace HBp := Kept.mk (HBp.out.below hb44)
          replace HIp := Kept.mk (HIp.out.below hb44)
          replace HBq := Kept.mk (HBq.out.below hb44)
          replace HIq := Kept.mk (HIq.out.below hb44)
          replace HBr := Kept.mk (HBr.out.below hb44)
          replace HIr := Kept.mk (HIr.out.below hb44)
          replace HBsum := Kept.mk (HBsum.out.below hb44)
          replace HIsum := Kept.mk (HIsum.out.below hb44)
          replace HBqc := Kept.mk (HBqc.out.below hb44)
          replace HIqc := Kept.mk (HIqc.out.below hb44)
          replace HW := Kept.mk (HW.out.trans (Below.mono hb44 HW.out.size))
          clear hb44 p45 q45 p46 q46 hR
          have hal47 : Below w44.heap.size w44 (w44.alloc (.cells #[.bool s44, .slice o44 k44 c44] 30)) := (Below.refl _ _).alloc (Nat.le_refl _) _
          replace HBa := Kept.mk (HBa.out.below hal47)
          replace HIa := Kept.mk (HIa.out.below hal47)
          replace HBb := Kept.mk (HBb.out.below hal47)
          replace HIb := Kept.mk (HIb.out.below hal47)
          replace HBc := Kept.mk (HBc.out.below hal47)
          replace HIc := Kept.mk (HIc.out.below hal47)
          replace HBab := Kept.mk (HBab.out.below hal47)
          replace HIab := Kept.mk (HIab.out.below hal47)
          replace HBba := Kept.mk (HBba.out.below hal47)
          replace HIba := Kept.mk (HIba.out.below hal47)
          replace HBabc := Kept.mk (HBabc.out.below hal47)
          replace HIabc := Kept.mk (HIabc.out.below hal47)
          replace HBbc := Kept.mk (HBbc.out.below hal47)
          replace HIbc := Kept.mk (HIbc.out.below hal47)
          replace HBcab := Kept.mk (HBcab.out.below hal47)
          replace HIcab := Kept.mk (HIcab.out.below hal47)
          replace HBp := Kept.mk (HBp.out.below hal47)
          replace HIp := Kept.mk (HIp.out.below hal47)
          replace HBq := Kept.mk (HBq.out.below hal47)
          replace HIq := Kept.mk (HIq.out.below hal47)
          replace HBr := Kept.mk (HBr.out.below hal47)
          replace HIr := Kept.mk (HIr.out.below hal47)
          replace HBsum := Kept.mk (HBsum.out.below hal47)
          replace HIsum := Kept.mk (HIsum.out.below hal47)
          replace HBqc := Kept.mk (HBqc.out.below hal47)
          replace HIqc := Kept.mk (HIqc.out.below hal47)
          replace HW := Kept.mk (HW.out.trans (Below.mono hal47 HW.out.size))
          have HBcr : Kept (Hb (w44.alloc (.cells #[.bool s44, .slice o44 k44 c44] 30)) w44.heap.size (.bool s44) (.slice o44 k44 c44)) := ⟨Hb.new _ _ _ _ rfl⟩
          have HIcr : Kept (IntV 625 (w44.alloc (.cells #[.bool s44, .slice o44 k44 c44] 30)) (.agg #[.bool s44, .slice o44 k44 c44]) (z2 * (z1 * z3))) := ⟨hI44.below hal47⟩
          clear hal47 hI44
          clear HIq HBq
          clear HIr HBr
          have HE1 : Kept (Dg.sg (z1 + z2) (z2 + z1) = 0) := ⟨by rw [Int.add_comm]; exact Dg.sg_eq _⟩
          obtain ⟨p49, q49, -, -⟩ := two_cells HBab.out
          obtain ⟨p50, q50, -, -⟩ := two_cells HBba.out
          go_wp2_with fail
          refine (cmp_any HIab.out HIba.out).mono ?_
          rintro e w48 ⟨hb48, he48⟩
          rw [HE1.out] at he48
          subst he48
          replace HBa := Kept.mk (HBa.out.below hb48)
          replace HIa := Kept.mk (HIa.out.below hb48)
          replace HBb := Kept.mk (HBb.out.below hb48)
          replace HIb := Kept.mk (HIb.out.below hb48)
          replace HBc := Kept.mk (HBc.out.below hb48)
          replace HIc := Kept.mk (HIc.out.below hb48)
          replace HBab := Kept.mk (HBab.out.below hb48)
          replace HIab := Kept.mk (HIab.out.below hb48)
          replace HBba := Kept.mk (HBba.out.below hb48)
          replace HIba := Kept.mk (HIba.out.below hb48)
          replace HBabc := Kept.mk (HBabc.out.below hb48)
          replace HIabc := Kept.mk (HIabc.out.below hb48)
          replace HBbc := Kept.mk (HBbc.out.below hb48)
          replace HIbc := Kept.mk (HIbc.out.below hb48)
          replace HBcab := Kept.mk (HBcab.out.below hb48)
          replace HIcab := Kept.mk (HIcab.out.below hb48)
          replace HBp := Kept.mk (HBp.out.below hb48)
          replace HIp := Kept.mk (HIp.out.below hb48)
          replace HBsum := Kept.mk (HBsum.out.below hb48)
          replace HIsum := Kept.mk (HIsum.out.below hb48)
          replace HBqc := Kept.mk (HBqc.out.below hb48)
          replace HIqc := Kept.mk (HIqc.out.below hb48)
          replace HBcr := Kept.mk (HBcr.out.below hb48)
          replace HIcr := Kept.mk (HIcr.out.below hb48)
          replace HW := Kept.mk (HW.out.trans (Below.mono hb48 HW.out.size))
          clear hb48 p49 q49 p50 q50
          have HE2 : Kept (Dg.sg (z1 + z2 + z3) (z1 + (z2 + z3)) = 0) := ⟨by rw [Int.add_assoc]; exact Dg.sg_eq _⟩
          obtain ⟨p52, q52, -, -⟩ := two_cells HBabc.out
          obtain ⟨p53, q53, -, -⟩ := two_cells HBcab.out
          go_wp2_with fail
          refine (cmp_any HIabc.out HIcab.out).mono ?_
          rintro e w51 ⟨hb51, he51⟩
          rw [HE2.out] at he51
          subst he51
          replace HBa := Kept.mk (HBa.out.below hb51)
          replace HIa := Kept.mk (HIa.out.below hb51)
          replace HBb := Kept.mk (HBb.out.below hb51)
          replace HIb := Kept.mk (HIb.out.below hb51)
          replace HBc := Kept.mk (HBc.out.below hb51)
          replace HIc := Kept.mk (HIc.out.below hb51)
          replace HBab := Kept.mk (HBab.out.below hb51)
          replace HIab := Kept.mk (HIab.out.below hb51)
          replace HBba := Kept.mk (HBba.out.below hb51)
          replace HIba := Kept.mk (HIba.out.below hb51)
          replace HBabc := Kept.mk (HBabc.out.below hb51)
          replace HIabc := Kept.mk (HIabc.out.below hb51)
          replace HBbc := Kept.mk (HBbc.out.below hb51)
          replace HIbc := Kept.mk (HIbc.out.below hb51)
          replace HBcab := Kept.mk (HBcab.out.below hb51)
          replace HIcab := Kept.mk (HIcab.out.below hb51)
          replace HBp := Kept.mk (HBp.out.below hb51)
          replace HIp := Kept.mk (HIp.out.below hb51)
          replace HBsum := Kept.mk (HBsum.out.below hb51)
          replace HIsum := Kept.mk (HIsum.out.below hb51)
          replace HBqc := Kept.mk (HBqc.out.below hb51)
          replace HIqc := Kept.mk (HIqc.out.below hb51)
          replace HBcr := Kept.mk (HBcr.out.below hb51)
          replace HIcr := Kept.mk (HIcr.out.below hb51)
          replace HW := Kept.mk (HW.out.trans (Below.mono hb51 HW.out.size))
          clear hb51 p52 q52 p53 q53
          have HE3 : Kept (Dg.sg (z1 * (z2 + z3)) (z1 * z2 + z1 * z3) = 0) := ⟨by rw [Int.mul_add]; exact Dg.sg_eq _⟩
          obtain ⟨p55, q55, -, -⟩ := two_cells HBp.out
          obtain ⟨p56, q56, -, -⟩ := two_cells HBsum.out
          go_wp2_with fail
          refine (cmp_any HIp.out HIsum.out).mono ?_
          rintro e w54 ⟨hb54, he54⟩
          rw [HE3.out] at he54
          subst he54
          replace HBa := Kept.mk (HBa.out.below hb54)
          replace HIa := Kept.mk (HIa.out.below hb54)
          replace HBb := Kept.mk (HBb.out.below hb54)
          replace HIb := Kept.mk (HIb.out.below hb54)
          replace HBc := Kept.mk (HBc.out.below hb54)
          replace HIc := Kept.mk (HIc.out.below hb54)
          replace HBab := Kept.mk (HBab.out.below hb54)
          replace HIab := Kept.mk (HIab.out.below hb54)
          replace HBba := Kept.mk (HBba.out.below hb54)
          replace HIba := Kept.mk (HIba.out.below hb54)
          replace HBabc := Kept.mk (HBabc.out.below hb54)
          replace HIabc := Kept.mk (HIabc.out.below hb54)
          replace HBbc := Kept.mk (HBbc.out.below hb54)
          replace HIbc := Kept.mk (HIbc.out.below hb54)
          replace HBcab := Kept.mk (HBcab.out.below hb54)
          replace HIcab := Kept.mk (HIcab.out.below hb54)
          replace HBp := Kept.mk (HBp.out.below hb54)
          replace HIp := Kept.mk (HIp.out.below hb54)
          replace HBsum := Kept.mk (HBsum.out.below hb54)
          replace HIsum := Kept.mk (HIsum.out.below hb54)
          replace HBqc := Kept.mk (HBqc.out.below hb54)
          replace HIqc := Kept.mk (HIqc.out.below hb54)
          replace HBcr := Kept.mk (HBcr.out.below hb54)
          replace HIcr := Kept.mk (HIcr.out.below hb54)
          replace HW := Kept.mk (HW.out.trans (Below.mono hb54 HW.out.size))
          clear hb54 p55 q55 p56 q56
          have HE4 : Kept (Dg.sg (z1 * z2 * z3) (z2 * (z1 * z3)) = 0) := ⟨by rw [Int.mul_assoc, Int.mul_left_comm]; exact Dg.sg_eq _⟩
          obtain ⟨p58, q58, -, -⟩ := two_cells HBqc.out
          obtain ⟨p59, q59, -, -⟩ := two_cells HBcr.out
          go_wp2_with fail
          refine (cmp_any HIqc.out HIcr.out).mono ?_
          rintro e w57 ⟨hb57, he57⟩
          rw [HE4.out] at he57
          subst he57
          replace HBa := Kept.mk (HBa.out.below hb57)
          replace HIa := Kept.mk (HIa.out.below hb57)
          replace HBb := Kept.mk (HBb.out.below hb57)
          replace HIb := Kept.mk (HIb.out.below hb57)
          replace HBc := Kept.mk (HBc.out.below hb57)
          replace HIc := Kept.mk (HIc.out.below hb57)
          replace HBab := Kept.mk (HBab.out.below hb57)
          replace HIab := Kept.mk (HIab.out.below hb57)
          replace HBba := Kept.mk (HBba.out.below hb57)
          replace HIba := Kept.mk (HIba.out.below hb57)
          replace HBabc := Kept.mk (HBabc.out.below hb57)
          replace HIabc := Kept.mk (HIabc.out.below hb57)
          replace HBbc := Kept.mk (HBbc.out.below hb57)
          replace HIbc := Kept.mk (HIbc.out.below hb57)
          replace HBcab := Kept.mk (HBcab.out.below hb57)
          replace HIcab := Kept.mk (HIcab.out.below hb57)
          replace HBp := Kept.mk (HBp.out.below hb57)
          replace HIp := Kept.mk (HIp.out.below hb57)
          replace HBsum := Kept.mk (HBsum.out.below hb57)
          replace HIsum := Kept.mk (HIsum.out.below hb57)
          replace HBqc := Kept.mk (HBqc.out.below hb57)
          replace HIqc := Kept.mk (HIqc.out.below hb57)
          replace HBcr := Kept.mk (HBcr.out.below hb57)
          replace HIcr := Kept.mk (HIcr.out.below hb57)
          replace HW := Kept.mk (HW.out.trans (Below.mono hb57 HW.out.size))
          clear hb57 p58 q58 p59 q59
          clear HIba HBba
          clear HIabc HBabc
          clear HIcab HBcab
          clear HIp HBp
          clear HIsum HBsum
          clear HIqc HBqc
          clear HIcr HBcr
          clear HIbc HBbc
          obtain ⟨p61, q61, -, -⟩ := two_cells HBab.out
          obtain ⟨p62, q62, -, -⟩ := two_cells HBb.out
          go_wp2_with fail
          refine (sub_any HIab.out HIb.out (by decide) (by decide)).mono ?_
          rintro e w60 hR
          obtain ⟨hb60, s60, o60, k60, c60, rfl, hI60⟩ := hR.yes HSM.out.d
          replace HBa := Kept.mk (HBa.out.below hb60)
          replace HIa := Kept.mk (HIa.out.below hb60)
          replace HBb := Kept.mk (HBb.out.below hb60)
          replace HIb := Kept.mk (HIb.out.below hb60)
          replace HBc := Kept.mk (HBc.out.below hb60)
          replace HIc := Kept.mk (HIc.out.below hb60)
          replace HBab := Kept.mk (HBab.out.below hb60)
          replace HIab := Kept.mk (HIab.out.below hb60)
          replace HW := Kept.mk (HW.out.trans (Below.mono hb60 HW.out.size))
          clear hb60 p61 q61 p62 q62 hR
          have hal63 : Below w60.heap.size w60 (w60.alloc (.cells #[.bool s60, .slice o60 k60 c60] 30)) := (Below.refl _ _).alloc (Nat.le_refl _) _
          replace HBa := Kept.mk (HBa.out.below hal63)
          replace HIa := Kept.mk (HIa.out.below hal63)
          replace HBb := Kept.mk (HBb.out.below hal63)
          replace HIb := Kept.mk (HIb.out.below hal63)
          replace HBc := Kept.mk (HBc.out.below hal63)
          replace HIc := Kept.mk (HIc.out.below hal63)
          replace HBab := Kept.mk (HBab.out.below hal63)
          replace HIab := Kept.mk (HIab.out.below hal63)
          replace HW := Kept.mk (HW.out.trans (Below.mono hal63 HW.out.size))
          have HBd : Kept (Hb (w60.alloc (.cells #[.bool s60, .slice o60 k60 c60] 30)) w60.heap.size (.bool s60) (.slice o60 k60 c60)) := ⟨Hb.new _ _ _ _ rfl⟩
          have HId : Kept (IntV 625 (w60.alloc (.cells #[.bool s60, .slice o60 k60 c60] 30)) (.agg #[.bool s60, .slice o60 k60 c60]) (z1 + z2 - z2)) := ⟨hI60.below hal63⟩
          clear hal63 hI60
          go_wp2_with fail
          generalize w60.alloc (.cells #[.bool s60, .slice o60 k60 c60] 30) = ws at *
          obtain ⟨σ, hσ⟩ : ∃ σ, Dg.sg z2 0 = σ := ⟨_, rfl⟩
          have hss : (σ == σ) = true := by simp
          have HE5 : Dg.sg (z1 + z2 - z2) z1 = 0 := by rw [Int.add_sub_cancel]; exact Dg.sg_eq _
          have HE6 : Dg.sg (z1 + z2) z1 = σ := by rw [← hσ]; exact sg_mono (by omega) (by omega)
          have HCd : Kept (∀ W, Below ws.heap.size ws W → Calls Tryz.prog 33 #[(.agg #[.bool s60, .slice o60 k60 c60]), (.agg #[.bool sa1, .slice ao1 ka1 ca1])] W (RetV W (.int .i64 0))) := ⟨fun W h => by have hc := cmp_any (HId.out.below h) (HIa.out.below h); rw [HE5] at hc; exact hc⟩
          have HCab : Kept (∀ W, Below ws.heap.size ws W → Calls Tryz.prog 33 #[(.agg #[.bool s4, .slice o4 k4 c4]), (.agg #[.bool sa1, .slice ao1 ka1 ca1])] W (RetV W (.int .i64 σ))) := ⟨fun W h => by have hc := cmp_any (HIab.out.below h) (HIa.out.below h); rw [HE6] at hc; exact hc⟩
          have HSb : Kept (∀ W, Below ws.heap.size ws W → Calls Tryz.prog 25 #[(.agg #[.bool sa2, .slice ao2 ka2 ca2])] W (RetV W (.int .i64 σ))) := ⟨fun W h => by have hc := sign_any (HIb.out.below h); rw [hσ] at hc; exact hc⟩
          clear HE5 HE6 hσ
          obtain ⟨i0d, i1d, -, -⟩ := two_cells HBd.out
          obtain ⟨i0a, i1a, -, -⟩ := two_cells HBa.out
          obtain ⟨i0ab, i1ab, -, -⟩ := two_cells HBab.out
          obtain ⟨i0b, i1b, -, -⟩ := two_cells HBb.out
          obtain ⟨i0c, i1c, -, -⟩ := two_cells HBc.out
          have hcs : z1 = z2 := hcase _ _ _ HZ1.out HZ2.out HZ3.out
          have hEHCab2 : Dg.sg z1 z2 = 0 := Dg.sg_eq' (by omega)
          have HCab2 : Kept (∀ W, Below ws.heap.size ws W → Calls Tryz.prog 33 #[(.agg #[.bool sa1, .slice ao1 ka1 ca1]), (.agg #[.bool sa2, .slice ao2 ka2 ca2])] W (RetV W (.int .i64 0))) := ⟨fun W h => by have hc := cmp_any (HIa.out.below h) (HIb.out.below h); rw [hEHCab2] at hc; exact hc⟩
          clear hEHCab2
          clear hcs
          refine wp_region_held_drew (S := fun w' => w'.cell? ⟨w60.heap.size, 0, none⟩ = some (.bool s60) ∧ w'.cell? ⟨w60.heap.size, 1, none⟩ = some (.slice o60 k60 c60) ∧ w'.cell? ⟨w1.heap.size, 0, none⟩ = some (.bool sa1) ∧ w'.cell? ⟨w1.heap.size, 1, none⟩ = some (.slice ao1 ka1 ca1) ∧ w'.cell? ⟨w4.heap.size, 0, none⟩ = some (.bool s4) ∧ w'.cell? ⟨w4.heap.size, 1, none⟩ = some (.slice o4 k4 c4) ∧ w'.cell? ⟨w2.heap.size, 0, none⟩ = some (.bool sa2) ∧ w'.cell? ⟨w2.heap.size, 1, none⟩ = some (.slice ao2 ka2 ca2) ∧ w'.cell? ⟨w3.heap.size, 0, none⟩ = some (.bool sa3) ∧ w'.cell? ⟨w3.heap.size, 1, none⟩ = some (.slice ao3 ka3 ca3)) (by kernel_rfl) ?_ (fun hHeld => ?_)
          · exact ⟨i0d, i1d, i0a, i1a, i0ab, i1ab, i0b, i1b, i0c, i1c⟩
          refine wpAnyH_take (i := 0) (v := ?_) rfl (by kernel_rfl) (by kernel_rfl) (by kernel_rfl) (fun _ _ _ h => h) (Or.inl ⟨by rfl, ?_⟩) (by assumption) ?_
          rotate_left
          · (intro w hSw; (try dsimp only at hSw); go_simp; (try with_reducible rfl))
          try simp only [Act.put, List.getElem_toArray, List.getElem_cons_succ, List.getElem_cons_zero, List.setIfInBounds_toArray, List.set_cons_zero, List.set_cons_succ]
          refine wpAnyH_take (i := 1) (v := ?_) rfl (by kernel_rfl) (by kernel_rfl) (by kernel_rfl) (fun _ _ _ h => h) (Or.inl ⟨by rfl, ?_⟩) (by assumption) ?_
          rotate_left
          · (intro w hSw; (try dsimp only at hSw); go_simp; (try with_reducible rfl))
          try simp only [Act.put, List.getElem_toArray, List.getElem_cons_succ, List.getElem_cons_zero, List.setIfInBounds_toArray, List.set_cons_zero, List.set_cons_succ]
          refine wpAnyH_take (i := 2) (v := ?_) rfl (by kernel_rfl) (by kernel_rfl) (by kernel_rfl) (fun _ _ _ h => h) (Or.inl ⟨by rfl, ?_⟩) (by assumption) ?_
          rotate_left
          · (intro w hSw; (try dsimp only at hSw); go_simp; (try with_reducible rfl))
          try simp only [Act.put, List.getElem_toArray, List.getElem_cons_succ, List.getElem_cons_zero, List.setIfInBounds_toArray, List.set_cons_zero, List.set_cons_succ]
          refine wpAnyH_take (i := 3) (v := ?_) rfl (by kernel_rfl) (by kernel_rfl) (by kernel_rfl) (fun _ _ _ h => h) (Or.inl ⟨by rfl, ?_⟩) (by assumption) ?_
          rotate_left
          · (intro w hSw; (try dsimp only at hSw); go_simp; (try with_reducible rfl))
          try simp only [Act.put, List.getElem_toArray, List.getElem_cons_succ, List.getElem_cons_zero, List.setIfInBounds_toArray, List.set_cons_zero, List.set_cons_succ]
          refine wpAnyH_take (i := 4) (v := ?_) rfl (by kernel_rfl) (by kernel_rfl) (by kernel_rfl) (fun _ _ _ h => h) (Or.inl ⟨by rfl, ?_⟩) (by assumption) ?_
          rotate_left
          · (intro w hSw; (try dsimp only at hSw); go_simp; (try with_reducible rfl))
          try simp only [Act.put, List.getElem_toArray, List.getElem_cons_succ, List.getElem_cons_zero, List.setIfInBounds_toArray, List.set_cons_zero, List.set_cons_succ]
          refine wpAnyH_ready (rs := [5]) (by kernel_rfl) (by simp) ?_
          refine AllReadyH.cons rfl (fun K hK => ?_) AllReadyH.nil
          go_simp
          refine (HCd.out _ ?h1).mono ?_
          case h1 => exact ((Bxs.start ws).drew).1
          rintro e w1' ⟨hb1, rfl⟩
          have hy1 := Bxs.below ((Bxs.start ws).drew) hb1
          obtain ⟨j0d, j1d, -, -⟩ := two_cells (HBd.out.below hy1.1)
          obtain ⟨j0a, j1a, -, -⟩ := two_cells (HBa.out.below hy1.1)
          obtain ⟨j0ab, j1ab, -, -⟩ := two_cells (HBab.out.below hy1.1)
          obtain ⟨j0b, j1b, -, -⟩ := two_cells (HBb.out.below hy1.1)
          obtain ⟨j0c, j1c, -, -⟩ := two_cells (HBc.out.below hy1.1)
          refine hK.out _ _ ?_ (fun hHeld => ?_)
          · exact ⟨j0d, j1d, j0a, j1a, j0ab, j1ab, j0b, j1b, j0c, j1c⟩
          clear hK K
          try simp only [Act.put, List.getElem_toArray, List.getElem_cons_succ, List.getElem_cons_zero, List.setIfInBounds_toArray, List.set_cons_zero, List.set_cons_succ]
          refine wpAnyH_take (i := 6) (v := ?_) rfl (by kernel_rfl) (by kernel_rfl) (by kernel_rfl) (fun _ _ _ h => h) (Or.inl ⟨by rfl, ?_⟩) (by assumption) ?_
          rotate_left
          · (intro w hSw; (try dsimp only at hSw); go_simp; (try with_reducible rfl))
          try simp only [Act.put, List.getElem_toArray, List.getElem_cons_succ, List.getElem_cons_zero, List.setIfInBounds_toArray, List.set_cons_zero, List.set_cons_succ]
          refine wpAnyH_take (i := 7) (v := ?_) rfl (by kernel_rfl) (by kernel_rfl) (by kernel_rfl) (fun _ _ _ h => h) (Or.inl ⟨by rfl, ?_⟩) (by assumption) ?_
          rotate_left
          · (intro w hSw; (try dsimp only at hSw); go_simp; (try with_reducible rfl))
          try simp only [Act.put, List.getElem_toArray, List.getElem_cons_succ, List.getElem_cons_zero, List.setIfInBounds_toArray, List.set_cons_zero, List.set_cons_succ]
          refine wpAnyH_take (i := 8) (v := ?_) rfl (by kernel_rfl) (by kernel_rfl) (by kernel_rfl) (fun _ _ _ h => h) (Or.inl ⟨by rfl, ?_⟩) (by assumption) ?_
          rotate_left
          · (intro w hSw; (try dsimp only at hSw); go_simp; (try with_reducible rfl))
          try simp only [Act.put, List.getElem_toArray, List.getElem_cons_succ, List.getElem_cons_zero, List.setIfInBounds_toArray, List.set_cons_zero, List.set_cons_succ]
          refine wpAnyH_take (i := 9) (v := ?_) rfl (by kernel_rfl) (by kernel_rfl) (by kernel_rfl) (fun _ _ _ h => h) (Or.inl ⟨by rfl, ?_⟩) (by assumption) ?_
          rotate_left
          · (intro w hSw; (try dsimp only at hSw); go_simp; (try with_reducible rfl))
          try simp only [Act.put, List.getElem_toArray, List.getElem_cons_succ, List.getElem_cons_zero, List.setIfInBounds_toArray, List.set_cons_zero, List.set_cons_succ]
          refine wpAnyH_take (i := 10) (v := ?_) rfl (by kernel_rfl) (by kernel_rfl) (by kernel_rfl) (fun _ _ _ h => h) (Or.inl ⟨by rfl, ?_⟩) (by assumption) ?_
          rotate_left
          · (intro w hSw; (try dsimp only at hSw); go_simp; (try with_reducible rfl))
          try simp only [Act.put, List.getElem_toArray, List.getElem_cons_succ, List.getElem_cons_zero, List.setIfInBounds_toArray, List.set_cons_zero, List.set_cons_succ]
          refine wpAnyH_take (i := 12) (v := ?_) rfl (by kernel_rfl) (by kernel_rfl) (by kernel_rfl) (fun _ _ _ h => h) (Or.inl ⟨by rfl, ?_⟩) (by assumption) ?_
          rotate_left
          · (intro w hSw; (try dsimp only at hSw); go_simp; (try with_reducible rfl))
          try simp only [Act.put, List.getElem_toArray, List.getElem_cons_succ, List.getElem_cons_zero, List.setIfInBounds_toArray, List.set_cons_zero, List.set_cons_succ]
          refine wpAnyH_ready (rs := [11]) (by kernel_rfl) (by simp) ?_
          refine AllReadyH.cons rfl (fun K hK => ?_) AllReadyH.nil
          go_simp
          refine (HCab.out _ ?h1).mono ?_
          case h1 => exact hy1.1
          rintro e w2' ⟨hb2, rfl⟩
          have hy2 := Bxs.below hy1 hb2
          obtain ⟨k0d, k1d, -, -⟩ := two_cells (HBd.out.below hy2.1)
          obtain ⟨k0a, k1a, -, -⟩ := two_cells (HBa.out.below hy2.1)
          obtain ⟨k0ab, k1ab, -, -⟩ := two_cells (HBab.out.below hy2.1)
          obtain ⟨k0b, k1b, -, -⟩ := two_cells (HBb.out.below hy2.1)
          obtain ⟨k0c, k1c, -, -⟩ := two_cells (HBc.out.below hy2.1)
          refine hK.out _ _ ?_ (fun hHeld => ?_)
          · exact ⟨k0d, k1d, k0a, k1a, k0ab, k1ab, k0b, k1b, k0c, k1c⟩
          clear hK K
          try simp only [Act.put, List.getElem_toArray, List.getElem_cons_succ, List.getElem_cons_zero, List.setIfInBounds_toArray, List.set_cons_zero, List.set_cons_succ]
          refine wpAnyH_ready (rs := [13]) (by kernel_rfl) (by simp) ?_
          refine AllReadyH.cons rfl (fun K hK => ?_) AllReadyH.nil
          go_simp
          refine (HSb.out _ ?h1).mono ?_
          case h1 => exact hy2.1
          rintro e w3' ⟨hb3, rfl⟩
          have hy3 := Bxs.below hy2 hb3
          obtain ⟨l0d, l1d, -, -⟩ := two_cells (HBd.out.below hy3.1)
          obtain ⟨l0a, l1a, -, -⟩ := two_cells (HBa.out.below hy3.1)
          obtain ⟨l0ab, l1ab, -, -⟩ := two_cells (HBab.out.below hy3.1)
          obtain ⟨l0b, l1b, -, -⟩ := two_cells (HBb.out.below hy3.1)
          obtain ⟨l0c, l1c, -, -⟩ := two_cells (HBc.out.below hy3.1)
          refine hK.out _ _ ?_ (fun hHeld => ?_)
          · exact ⟨l0d, l1d, l0a, l1a, l0ab, l1ab, l0b, l1b, l0c, l1c⟩
          clear hK K
          try simp only [Act.put, List.getElem_toArray, List.getElem_cons_succ, List.getElem_cons_zero, List.setIfInBounds_toArray, List.set_cons_zero, List.set_cons_succ]
          refine wpAnyH_take (i := 14) (v := ?_) rfl (by kernel_rfl) (by kernel_rfl) (by kernel_rfl) (fun _ _ _ h => h) (Or.inl ⟨by rfl, ?_⟩) (by assumption) ?_
          rotate_left
          · (intro w hSw; (try dsimp only at hSw); go_simp; (try with_reducible rfl))
          try simp only [Act.put, List.getElem_toArray, List.getElem_cons_succ, List.getElem_cons_zero, List.setIfInBounds_toArray, List.set_cons_zero, List.set_cons_succ]
          refine wpAnyH_take (i := 15) (v := ?_) rfl (by kernel_rfl) (by kernel_rfl) (by kernel_rfl) (fun _ _ _ h => h) (Or.inl ⟨by rfl, ?_⟩) (by assumption) ?_
          rotate_left
          · (intro w hSw; (try dsimp only at hSw); go_simp; (try with_reducible rfl))
          try simp only [Act.put, List.getElem_toArray, List.getElem_cons_succ, List.getElem_cons_zero, List.setIfInBounds_toArray, List.set_cons_zero, List.set_cons_succ]
          refine wpAnyH_take (i := 16) (v := ?_) rfl (by kernel_rfl) (by kernel_rfl) (by kernel_rfl) (fun _ _ _ h => h) (Or.inl ⟨by rfl, ?_⟩) (by assumption) ?_
          rotate_left
          · (intro w hSw; (try dsimp only at hSw); go_simp; (try with_reducible rfl))
          try simp only [Act.put, List.getElem_toArray, List.getElem_cons_succ, List.getElem_cons_zero, List.setIfInBounds_toArray, List.set_cons_zero, List.set_cons_succ]
          refine wpAnyH_take (i := 17) (v := ?_) rfl (by kernel_rfl) (by kernel_rfl) (by kernel_rfl) (fun _ _ _ h => h) (Or.inl ⟨by rfl, ?_⟩) (by assumption) ?_
          rotate_left
          · (intro w hSw; (try dsimp only at hSw); go_simp; (try with_reducible rfl))
          try simp only [Act.put, List.getElem_toArray, List.getElem_cons_succ, List.getElem_cons_zero, List.setIfInBounds_toArray, List.set_cons_zero, List.set_cons_succ]
          refine wpAnyH_take (i := 18) (v := ?_) rfl (by kernel_rfl) (by kernel_rfl) (by kernel_rfl) (fun _ _ _ h => h) (Or.inl ⟨by rfl, ?_⟩) (by assumption) ?_
          rotate_left
          · (intro w hSw; (try dsimp only at hSw); go_simp; (try with_reducible rfl))
          try simp only [Act.put, List.getElem_toArray, List.getElem_cons_succ, List.getElem_cons_zero, List.setIfInBounds_toArray, List.set_cons_zero, List.set_cons_succ]
          refine wpAnyH_ready (rs := [19]) (by kernel_rfl) (by simp) ?_
          refine AllReadyH.cons rfl (fun K hK => ?_) AllReadyH.nil
          go_simp
          refine (HCab2.out _ ?h1).mono ?_
          case h1 => exact hy3.1
          rintro e w4' ⟨hb4, rfl⟩
          have hy4 := Bxs.below hy3 hb4
          obtain ⟨m0d, m1d, -, -⟩ := two_cells (HBd.out.below hy4.1)
          obtain ⟨m0a, m1a, -, -⟩ := two_cells (HBa.out.below hy4.1)
          obtain ⟨m0ab, m1ab, -, -⟩ := two_cells (HBab.out.below hy4.1)
          obtain ⟨m0b, m1b, -, -⟩ := two_cells (HBb.out.below hy4.1)
          obtain ⟨m0c, m1c, -, -⟩ := two_cells (HBc.out.below hy4.1)
          refine hK.out _ _ ?_ (fun hHeld => ?_)
          · exact ⟨m0d, m1d, m0a, m1a, m0ab, m1ab, m0b, m1b, m0c, m1c⟩
          clear hK K
          try simp only [Act.put, List.getElem_toArray, List.getElem_cons_succ, List.getElem_cons_zero, List.setIfInBounds_toArray, List.set_cons_zero, List.set_cons_succ]
          refine wpAnyH_take (i := 20) (v := ?_) rfl (by kernel_rfl) (by kernel_rfl) (by kernel_rfl) (fun _ _ _ h => h) (Or.inl ⟨by rfl, ?_⟩) (by assumption) ?_
          rotate_left
          · (intro w hSw; (try dsimp only at hSw); go_simp; (try with_reducible rfl))
          try simp only [Act.put, List.getElem_toArray, List.getElem_cons_succ, List.getElem_cons_zero, List.setIfInBounds_toArray, List.set_cons_zero, List.set_cons_succ]
          refine wpAnyH_take (i := 21) (v := ?_) rfl (by kernel_rfl) (by kernel_rfl) (by kernel_rfl) (fun _ _ _ h => h) (Or.inl ⟨by rfl, ?_⟩) (by assumption) ?_
          rotate_left
          · (intro w hSw; (try dsimp only at hSw); go_simp; (try with_reducible rfl))
          try simp only [Act.put, List.getElem_toArray, List.getElem_cons_succ, List.getElem_cons_zero, List.setIfInBounds_toArray, List.set_cons_zero, List.set_cons_succ]
          refine wpAnyH_take (i := 22) (v := undef) rfl (by kernel_rfl) (by kernel_rfl) (by kernel_rfl) (fun _ _ _ h => h) (Or.inr ⟨by rfl, rfl⟩) (by assumption) ?_
          try simp only [Act.put, List.getElem_toArray, List.getElem_cons_succ, List.getElem_cons_zero, List.setIfInBounds_toArray, List.set_cons_zero, List.set_cons_succ]
          refine wpAnyH_take (i := 23) (v := undef) rfl (by kernel_rfl) (by kernel_rfl) (by kernel_rfl) (fun _ _ _ h => h) (Or.inr ⟨by rfl, rfl⟩) (by assumption) ?_
          try simp only [Act.put, List.getElem_toArray, List.getElem_cons_succ, List.getElem_cons_zero, List.setIfInBounds_toArray, List.set_cons_zero, List.set_cons_succ]
          refine wpAnyH_take (i := 24) (v := undef) rfl (by kernel_rfl) (by kernel_rfl) (by kernel_rfl) (fun _ _ _ h => h) (Or.inr ⟨by rfl, rfl⟩) (by assumption) ?_
          try simp only [Act.put, List.getElem_toArray, List.getElem_cons_succ, List.getElem_cons_zero, List.setIfInBounds_toArray, List.set_cons_zero, List.set_cons_succ]
          refine wpAnyH_take (i := 25) (v := undef) rfl (by kernel_rfl) (by kernel_rfl) (by kernel_rfl) (fun _ _ _ h => h) (Or.inr ⟨by rfl, rfl⟩) (by assumption) ?_
          try simp only [Act.put, List.getElem_toArray, List.getElem_cons_succ, List.getElem_cons_zero, List.setIfInBounds_toArray, List.set_cons_zero, List.set_cons_succ]
          refine wpAnyH_take (i := 26) (v := ?_) rfl (by kernel_rfl) (by kernel_rfl) (by kernel_rfl) (fun _ _ _ h => h) (Or.inl ⟨by rfl, ?_⟩) (by assumption) ?_
          rotate_left
          · (intro w hSw; (try dsimp only at hSw); go_simp; (try with_reducible rfl))
          try simp only [Act.put, List.getElem_toArray, List.getElem_cons_succ, List.getElem_cons_zero, List.setIfInBounds_toArray, List.set_cons_zero, List.set_cons_succ]
          refine wpAnyH_take (i := 27) (v := ?_) rfl (by kernel_rfl) (by kernel_rfl) (by kernel_rfl) (fun _ _ _ h => h) (Or.inl ⟨by rfl, ?_⟩) (by assumption) ?_
          rotate_left
          · (intro w hSw; (try dsimp only at hSw); go_simp; (try with_reducible rfl))
          try simp only [Act.put, List.getElem_toArray, List.getElem_cons_succ, List.getElem_cons_zero, List.setIfInBounds_toArray, List.set_cons_zero, List.set_cons_succ]
          refine wpAnyH_take (i := 28) (v := undef) rfl (by kernel_rfl) (by kernel_rfl) (by kernel_rfl) (fun _ _ _ h => h) (Or.inr ⟨by rfl, rfl⟩) (by assumption) ?_
          try simp only [Act.put, List.getElem_toArray, List.getElem_cons_succ, List.getElem_cons_zero, List.setIfInBounds_toArray, List.set_cons_zero, List.set_cons_succ]
          refine wpAnyH_take (i := 29) (v := undef) rfl (by kernel_rfl) (by kernel_rfl) (by kernel_rfl) (fun _ _ _ h => h) (Or.inr ⟨by rfl, rfl⟩) (by assumption) ?_
          try simp only [Act.put, List.getElem_toArray, List.getElem_cons_succ, List.getElem_cons_zero, List.setIfInBounds_toArray, List.set_cons_zero, List.set_cons_succ]
          refine wpAnyH_take (i := 30) (v := undef) rfl (by kernel_rfl) (by kernel_rfl) (by kernel_rfl) (fun _ _ _ h => h) (Or.inr ⟨by rfl, rfl⟩) (by assumption) ?_
          try simp only [Act.put, List.getElem_toArray, List.getElem_cons_succ, List.getElem_cons_zero, List.setIfInBounds_toArray, List.set_cons_zero, List.set_cons_succ]
          refine wpAnyH_take (i := 31) (v := undef) rfl (by kernel_rfl) (by kernel_rfl) (by kernel_rfl) (fun _ _ _ h => h) (Or.inr ⟨by rfl, rfl⟩) (by assumption) ?_
          try simp only [Act.put, List.getElem_toArray, List.getElem_cons_succ, List.getElem_cons_zero, List.setIfInBounds_toArray, List.set_cons_zero, List.set_cons_succ]
          refine wpAnyH_take (i := 32) (v := ?_) rfl (by kernel_rfl) (by kernel_rfl) (by kernel_rfl) (fun _ _ _ h => h) (Or.inl ⟨by rfl, ?_⟩) (by assumption) ?_
          rotate_left
          · (intro w hSw; (try dsimp only at hSw); go_simp; (try with_reducible rfl))
          try simp only [Act.put, List.getElem_toArray, List.getElem_cons_succ, List.getElem_cons_zero, List.setIfInBounds_toArray, List.set_cons_zero, List.set_cons_succ]
          refine wpAnyH_take (i := 33) (v := ?_) rfl (by kernel_rfl) (by kernel_rfl) (by kernel_rfl) (fun _ _ _ h => h) (Or.inl ⟨by rfl, ?_⟩) (by assumption) ?_
          rotate_left
          · (intro w hSw; (try dsimp only at hSw); go_simp; (try with_reducible rfl))
          try simp only [Act.put, List.getElem_toArray, List.getElem_cons_succ, List.getElem_cons_zero, List.setIfInBounds_toArray, List.set_cons_zero, List.set_cons_succ]
          refine wpAnyH_take (i := 34) (v := ?_) rfl (by kernel_rfl) (by kernel_rfl) (by kernel_rfl) (fun _ _ _ h => h) (Or.inl ⟨by rfl, ?_⟩) (by assumption) ?_
          rotate_left
          · (intro w hSw; (try dsimp only at hSw); go_simp; (try with_reducible rfl))
          try simp only [Act.put, List.getElem_toArray, List.getElem_cons_succ, List.getElem_cons_zero, List.setIfInBounds_toArray, List.set_cons_zero, List.set_cons_succ]
          refine wpAnyH_ready (rs := [35]) (by kernel_rfl) (by simp) ?_
          refine AllReadyH.cons rfl (fun K hK => ?_) AllReadyH.nil
          go_simp
          refine (awake_any _).mono ?_
          rintro e w5' ⟨hb5, rfl⟩
          have hy5 := Bxs.below hy4 hb5
          obtain ⟨n0d, n1d, -, -⟩ := two_cells (HBd.out.below hy5.1)
          obtain ⟨n0a, n1a, -, -⟩ := two_cells (HBa.out.below hy5.1)
          obtain ⟨n0ab, n1ab, -, -⟩ := two_cells (HBab.out.below hy5.1)
          obtain ⟨n0b, n1b, -, -⟩ := two_cells (HBb.out.below hy5.1)
          obtain ⟨n0c, n1c, -, -⟩ := two_cells (HBc.out.below hy5.1)
          refine hK.out _ _ ?_ (fun hHeld => ?_)
          · exact ⟨n0d, n1d, n0a, n1a, n0ab, n1ab, n0b, n1b, n0c, n1c⟩
          clear hK K
          try simp only [Act.put, List.getElem_toArray, List.getElem_cons_succ, List.getElem_cons_zero, List.setIfInBounds_toArray, List.set_cons_zero, List.set_cons_succ]
          refine wpAnyH_take (i := 36) (v := ?_) rfl (by kernel_rfl) (by kernel_rfl) (by kernel_rfl) (fun _ _ _ h => h) (Or.inl ⟨by rfl, ?_⟩) (by assumption) ?_
          rotate_left
          · (intro w hSw; (try dsimp only at hSw); go_simp; (try with_reducible rfl))
          try simp only [Act.put, List.getElem_toArray, List.getElem_cons_succ, List.getElem_cons_zero, List.setIfInBounds_toArray, List.set_cons_zero, List.set_cons_succ]
          refine wpAnyH_take (i := 37) (v := ?_) rfl (by kernel_rfl) (by kernel_rfl) (by kernel_rfl) (fun _ _ _ h => h) (Or.inl ⟨by rfl, ?_⟩) (by assumption) ?_
          rotate_left
          · (intro w hSw; (try dsimp only at hSw); go_simp; (try with_reducible rfl))
          try simp only [Act.put, List.getElem_toArray, List.getElem_cons_succ, List.getElem_cons_zero, List.setIfInBounds_toArray, List.set_cons_zero, List.set_cons_succ]
          refine wpAnyH_done (by kernel_rfl) ?_ _
          have hfin : Below w.heap.size w w5' := HW.out.trans (hy5.1.mono HW.out.size)
          have HFIN := Kept.mk hfin
          go_wp2
          go_ret
          exact ⟨HFIN.out, rfl⟩
        · skip
          have hd9 : decide ((900 : Int) < (s.size : Int) + t.size + u.size) = true := decide_eq_true (by omega)
          go_wp2_with fail
          refine (awake_any _).mono ?_
          rintro e w4 ⟨hb4, he4⟩
          subst he4
          replace HBa := Kept.mk (HBa.out.below hb4)
          replace HIa := Kept.mk (HIa.out.below hb4)
          replace HBb := Kept.mk (HBb.out.below hb4)
          replace HIb := Kept.mk (HIb.out.below hb4)
          replace HBc := Kept.mk (HBc.out.below hb4)
          replace HIc := Kept.mk (HIc.out.below hb4)
          replace HW := Kept.mk (HW.out.trans (Below.mono hb4 HW.out.size))
          clear hb4 
          go_wp2
          go_ret
          exact ⟨HW.out, rfl⟩
end Go.Proofs.YtblbheilddafbaaGreatDoor
