/-
  Texts of the proof, merged by program: Dvd Dvdc.
-/
import Derived.Test.YtblbheilddafbaaGreatDoorZZdv
import Derived.Test.YtblbheilddafbaaGreatDoorZSums
import Derived.Test.YtblbheilddafbaaGreatDoorZ11
import Derived.Test.YtblbheilddafbaaGreatDoorZ22
import Derived.SizedLaws
import Derived.ChangeMaps5
set_option linter.unusedVariables false
set_option linter.unusedSimpArgs false
namespace Go.Proofs.YtblbheilddafbaaGreatDoor
open Go Go.RowKit
theorem Hz.more {W : World} {g : Nat} {x y : Value} (h : Hz W g x y) (o : Obj) : Hz (W.alloc o) g x y := (heap_alloc_old W o (Array.getElem?_eq_some_iff.1 h).1).trans h
set_option maxRecDepth 20000 in
set_option maxHeartbeats 8000000 in
theorem tallyDivides_any (s t : ByteArray) (w : World) (hs : s.size ≤ 140737488355328) (ht : t.size ≤ 140737488355328) :
    Calls Tryz.prog 7 #[.string s, .string t] w (RetV w (.bool true)) := by
  have HW : Kept (Below w.heap.size w w) := ⟨Below.refl _ _⟩
  have hnot : ∀ (x : Bool) (w : World), (Op.unary .not (.bool x)).run Tryz.prog w = .ok (.bool (!x)) w := fun _ _ => rfl
  go_enter Tryz.func7, Tryz.ntmps7
  go_wp2_with fail
  refine (whole_any s _ hs).mono ?_
  rintro e w1 ⟨hb1, sa1, ao1, ka1, ca1, sb1, bo1, kb1, cb1, ok1, rfl, hy1⟩
  replace HW := Kept.mk (HW.out.trans (Below.mono hb1 HW.out.size))
  have HY1 := Kept.mk hy1
  clear hb1 hy1
  have hal1 : Below w1.heap.size w1 ((w1.alloc (.cells #[.bool sa1, .slice ao1 ka1 ca1] 30)).alloc (.cells #[.bool sb1, .slice bo1 kb1 cb1] 25)) := ((Below.refl _ _).alloc (Nat.le_refl _) _).alloc (by simp) _
  replace HW := Kept.mk (HW.out.trans (Below.mono hal1 HW.out.size))
  have HBa1 : Kept (Hb ((w1.alloc (.cells #[.bool sa1, .slice ao1 ka1 ca1] 30)).alloc (.cells #[.bool sb1, .slice bo1 kb1 cb1] 25)) w1.heap.size (.bool sa1) (.slice ao1 ka1 ca1)) := ⟨(Hb.new _ _ _ _ rfl).more _⟩
  have HBx1 : Kept (Hz ((w1.alloc (.cells #[.bool sa1, .slice ao1 ka1 ca1] 30)).alloc (.cells #[.bool sb1, .slice bo1 kb1 cb1] 25)) (w1.heap.size + 1) (.bool sb1) (.slice bo1 kb1 cb1)) := ⟨Hz.new _ _ _ _ (by simp)⟩
  have HAL1 := Kept.mk hal1
  clear hal1
  cases ok1
  · skip
    clear HBa1 HBx1 HY1 HAL1
    go_wp2_with fail
    refine (whole_any t _ ht).mono ?_
    rintro e w2 ⟨hb2, sa2, ao2, ka2, ca2, sb2, bo2, kb2, cb2, ok2, rfl, hy2⟩
    replace HW := Kept.mk (HW.out.trans (Below.mono hb2 HW.out.size))
    have HY2 := Kept.mk hy2
    clear hb2 hy2
    have hal2 : Below w2.heap.size w2 ((w2.alloc (.cells #[.bool sa2, .slice ao2 ka2 ca2] 30)).alloc (.cells #[.bool sb2, .slice bo2 kb2 cb2] 25)) := ((Below.refl _ _).alloc (Nat.le_refl _) _).alloc (by simp) _
    replace HW := Kept.mk (HW.out.trans (Below.mono hal2 HW.out.size))
    have HBa2 : Kept (Hb ((w2.alloc (.cells #[.bool sa2, .slice ao2 ka2 ca2] 30)).alloc (.cells #[.bool sb2, .slice bo2 kb2 cb2] 25)) w2.heap.size (.bool sa2) (.slice ao2 ka2 ca2)) := ⟨(Hb.new _ _ _ _ rfl).more _⟩
    have HBx2 : Kept (Hz ((w2.alloc (.cells #[.bool sa2, .slice ao2 ka2 ca2] 30)).alloc (.cells #[.bool sb2, .slice bo2 kb2 cb2] 25)) (w2.heap.size + 1) (.bool sb2) (.slice bo2 kb2 cb2)) := ⟨Hz.new _ _ _ _ (by simp)⟩
    have HAL2 := Kept.mk hal2
    clear hal2
    clear HBa2 HBx2 HY2 HAL2
    go_wp2_with fail
    refine (awake_any _).mono ?_
    rintro e w3 ⟨hb3, he3⟩
    subst he3
    replace HW := Kept.mk (HW.out.trans (Below.mono hb3 HW.out.size))
    clear hb3 
    go_wp2
    go_ret
    exact ⟨HW.out, rfl⟩
  · skip
    obtain ⟨z1, hz1, hl1, hsm1, hI1, hZ1⟩ := HY1.out rfl
    have HZ1 := Kept.mk hz1
    have HL1 := Kept.mk hl1
    have HSM1 := Kept.mk hsm1
    have HIa := Kept.mk (hI1.below HAL1.out)
    have HIx := Kept.mk (hZ1.below HAL1.out)
    have HBa := HBa1
    have HBx := HBx1
    clear hz1 hl1 hsm1 hI1 hZ1 HBa1 HBx1 HY1 HAL1
    go_wp2_with fail
    refine (whole_any t _ ht).mono ?_
    rintro e w2 ⟨hb2, sa2, ao2, ka2, ca2, sb2, bo2, kb2, cb2, ok2, rfl, hy2⟩
    replace HBa := Kept.mk (HBa.out.below hb2)
    replace HIa := Kept.mk (HIa.out.below hb2)
    replace HBx := Kept.mk (HBx.out.below hb2)
    replace HIx := Kept.mk (HIx.out.below hb2)
    replace HW := Kept.mk (HW.out.trans (Below.mono hb2 HW.out.size))
    have HY2 := Kept.mk hy2
    clear hb2 hy2
    have hal2 : Below w2.heap.size w2 ((w2.alloc (.cells #[.bool sa2, .slice ao2 ka2 ca2] 30)).alloc (.cells #[.bool sb2, .slice bo2 kb2 cb2] 25)) := ((Below.refl _ _).alloc (Nat.le_refl _) _).alloc (by simp) _
    replace HBa := Kept.mk (HBa.out.below hal2)
    replace HIa := Kept.mk (HIa.out.below hal2)
    replace HBx := Kept.mk (HBx.out.below hal2)
    replace HIx := Kept.mk (HIx.out.below hal2)
    replace HW := Kept.mk (HW.out.trans (Below.mono hal2 HW.out.size))
    have HBa2 : Kept (Hb ((w2.alloc (.cells #[.bool sa2, .slice ao2 ka2 ca2] 30)).alloc (.cells #[.bool sb2, .slice bo2 kb2 cb2] 25)) w2.heap.size (.bool sa2) (.slice ao2 ka2 ca2)) := ⟨(Hb.new _ _ _ _ rfl).more _⟩
    have HBx2 : Kept (Hz ((w2.alloc (.cells #[.bool sa2, .slice ao2 ka2 ca2] 30)).alloc (.cells #[.bool sb2, .slice bo2 kb2 cb2] 25)) (w2.heap.size + 1) (.bool sb2) (.slice bo2 kb2 cb2)) := ⟨Hz.new _ _ _ _ (by simp)⟩
    have HAL2 := Kept.mk hal2
    clear hal2
    cases ok2
    · skip
      clear HBa2 HBx2 HY2 HAL2
      go_wp2_with fail
      refine (awake_any _).mono ?_
      rintro e w3 ⟨hb3, he3⟩
      subst he3
      replace HBa := Kept.mk (HBa.out.below hb3)
      replace HIa := Kept.mk (HIa.out.below hb3)
      replace HBx := Kept.mk (HBx.out.below hb3)
      replace HIx := Kept.mk (HIx.out.below hb3)
      replace HW := Kept.mk (HW.out.trans (Below.mono hb3 HW.out.size))
      clear hb3 
      go_wp2
      go_ret
      exact ⟨HW.out, rfl⟩
    · skip
      obtain ⟨z2, hz2, hl2, hsm2, hI2, hZ2⟩ := HY2.out rfl
      have HZ2 := Kept.mk hz2
      have HL2 := Kept.mk hl2
      have HSM2 := Kept.mk hsm2
      have HIb := Kept.mk (hI2.below HAL2.out)
      have HIy := Kept.mk (hZ2.below HAL2.out)
      have HBb := HBa2
      have HBy := HBx2
      clear hz2 hl2 hsm2 hI2 hZ2 HBa2 HBx2 HY2 HAL2
      by_cases hz2 : z2 = 0
      · skip
        subst hz2
        obtain ⟨p4, q4, -, -⟩ := two_cells HBa.out
        obtain ⟨p5, q5, -, -⟩ := two_cells HBb.out
        go_wp2_with fail
        refine (idiv_zero HIa.out HIb.out).mono ?_
        rintro e w3 ⟨hb3, rfl⟩
        replace HBa := Kept.mk (HBa.out.below hb3)
        replace HIa := Kept.mk (HIa.out.below hb3)
        replace HBx := Kept.mk (HBx.out.below hb3)
        replace HIx := Kept.mk (HIx.out.below hb3)
        replace HBb := Kept.mk (HBb.out.below hb3)
        replace HIb := Kept.mk (HIb.out.below hb3)
        replace HBy := Kept.mk (HBy.out.below hb3)
        replace HIy := Kept.mk (HIy.out.below hb3)
        replace HW := Kept.mk (HW.out.trans (Below.mono hb3 HW.out.size))
        clear hb3 p4 q4 p5 q5
        have hJ : IntV 625 w3 (.agg #[.bool false, .slice none 0 0]) 0 := zeroInt w3
        have hal6 : Below w3.heap.size w3 ((w3.alloc (.cells #[.bool false, .slice none 0 0] 30)).alloc (.cells #[.bool false, .slice none 0 0] 30)) := ((Below.refl _ _).alloc (Nat.le_refl _) _).alloc (by simp) _
        replace HBa := Kept.mk (HBa.out.below hal6)
        replace HIa := Kept.mk (HIa.out.below hal6)
        replace HBx := Kept.mk (HBx.out.below hal6)
        replace HIx := Kept.mk (HIx.out.below hal6)
        replace HBb := Kept.mk (HBb.out.below hal6)
        replace HIb := Kept.mk (HIb.out.below hal6)
        replace HBy := Kept.mk (HBy.out.below hal6)
        replace HIy := Kept.mk (HIy.out.below hal6)
        replace HW := Kept.mk (HW.out.trans (Below.mono hal6 HW.out.size))
        have HBq : Kept (Hb ((w3.alloc (.cells #[.bool false, .slice none 0 0] 30)).alloc (.cells #[.bool false, .slice none 0 0] 30)) w3.heap.size (.bool false) (.slice none 0 0)) := ⟨(Hb.new _ _ _ _ rfl).more _⟩
        have HIq : Kept (IntV 625 ((w3.alloc (.cells #[.bool false, .slice none 0 0] 30)).alloc (.cells #[.bool false, .slice none 0 0] 30)) (.agg #[.bool false, .slice none 0 0]) 0) := ⟨hJ.below hal6⟩
        have HBr : Kept (Hb ((w3.alloc (.cells #[.bool false, .slice none 0 0] 30)).alloc (.cells #[.bool false, .slice none 0 0] 30)) (w3.heap.size + 1) (.bool false) (.slice none 0 0)) := ⟨Hb.new _ _ _ _ (by simp)⟩
        have HIr : Kept (IntV 625 ((w3.alloc (.cells #[.bool false, .slice none 0 0] 30)).alloc (.cells #[.bool false, .slice none 0 0] 30)) (.agg #[.bool false, .slice none 0 0]) 0) := ⟨hJ.below hal6⟩
        clear hal6 hJ
        obtain ⟨p8, q8, -, -⟩ := two_cells HBy.out
        go_wp2_with fail
        refine (rsignz_any HIy.out).mono ?_
        rintro e w7 ⟨hb7, he7⟩
        subst he7
        replace HBa := Kept.mk (HBa.out.below hb7)
        replace HIa := Kept.mk (HIa.out.below hb7)
        replace HBx := Kept.mk (HBx.out.below hb7)
        replace HIx := Kept.mk (HIx.out.below hb7)
        replace HBb := Kept.mk (HBb.out.below hb7)
        replace HIb := Kept.mk (HIb.out.below hb7)
        replace HBy := Kept.mk (HBy.out.below hb7)
        replace HIy := Kept.mk (HIy.out.below hb7)
        replace HBq := Kept.mk (HBq.out.below hb7)
        replace HIq := Kept.mk (HIq.out.below hb7)
        replace HBr := Kept.mk (HBr.out.below hb7)
        replace HIr := Kept.mk (HIr.out.below hb7)
        replace HW := Kept.mk (HW.out.trans (Below.mono hb7 HW.out.size))
        clear hb7 p8 q8
        obtain ⟨p10, q10, -, -⟩ := two_cells HBq.out
        go_wp2_with fail
        refine (sign_any HIq.out).mono ?_
        rintro e w9 ⟨hb9, he9⟩
        subst he9
        replace HBa := Kept.mk (HBa.out.below hb9)
        replace HIa := Kept.mk (HIa.out.below hb9)
        replace HBx := Kept.mk (HBx.out.below hb9)
        replace HIx := Kept.mk (HIx.out.below hb9)
        replace HBb := Kept.mk (HBb.out.below hb9)
        replace HIb := Kept.mk (HIb.out.below hb9)
        replace HBy := Kept.mk (HBy.out.below hb9)
        replace HIy := Kept.mk (HIy.out.below hb9)
        replace HBq := Kept.mk (HBq.out.below hb9)
        replace HIq := Kept.mk (HIq.out.below hb9)
        replace HBr := Kept.mk (HBr.out.below hb9)
        replace HIr := Kept.mk (HIr.out.below hb9)
        replace HW := Kept.mk (HW.out.trans (Below.mono hb9 HW.out.size))
        clear hb9 p10 q10
        obtain ⟨p12, q12, -, -⟩ := two_cells HBr.out
        go_wp2_with fail
        refine (sign_any HIr.out).mono ?_
        rintro e w11 ⟨hb11, he11⟩
        subst he11
        replace HBa := Kept.mk (HBa.out.below hb11)
        replace HIa := Kept.mk (HIa.out.below hb11)
        replace HBx := Kept.mk (HBx.out.below hb11)
        replace HIx := Kept.mk (HIx.out.below hb11)
        replace HBb := Kept.mk (HBb.out.below hb11)
        replace HIb := Kept.mk (HIb.out.below hb11)
        replace HBy := Kept.mk (HBy.out.below hb11)
        replace HIy := Kept.mk (HIy.out.below hb11)
        replace HBq := Kept.mk (HBq.out.below hb11)
        replace HIq := Kept.mk (HIq.out.below hb11)
        replace HBr := Kept.mk (HBr.out.below hb11)
        replace HIr := Kept.mk (HIr.out.below hb11)
        replace HW := Kept.mk (HW.out.trans (Below.mono hb11 HW.out.size))
        clear hb11 p12 q12
        go_wp2_with fail
        refine (awake_any _).mono ?_
        rintro e w13 ⟨hb13, he13⟩
        subst he13
        replace HBa := Kept.mk (HBa.out.below hb13)
        replace HIa := Kept.mk (HIa.out.below hb13)
        replace HBx := Kept.mk (HBx.out.below hb13)
        replace HIx := Kept.mk (HIx.out.below hb13)
        replace HBb := Kept.mk (HBb.out.below hb13)
        replace HIb := Kept.mk (HIb.out.below hb13)
        replace HBy := Kept.mk (HBy.out.below hb13)
        replace HIy := Kept.mk (HIy.out.below hb13)
        replace HBq := Kept.mk (HBq.out.below hb13)
        replace HIq := Kept.mk (HIq.out.below hb13)
        replace HBr := Kept.mk (HBr.out.below hb13)
        replace HIr := Kept.mk (HIr.out.below hb13)
        replace HW := Kept.mk (HW.out.trans (Below.mono hb13 HW.out.size))
        clear hb13 
        go_wp2
        go_ret
        exact ⟨HW.out, rfl⟩
      · skip
        have HNE := Kept.mk hz2
        obtain ⟨σ, hσ0, hσ⟩ : ∃ σ : Int, (σ == 0) = false ∧ Dg.sg z2 0 = σ := by
          refine ⟨_, ?_, rfl⟩
          rcases Int.lt_trichotomy z2 0 with h | h | h
          · rw [Dg.sg_lt h]; rfl
          · exact absurd h hz2
          · rw [Dg.sg_gt h]; rfl
        have HSG := Kept.mk hσ
        clear hσ hz2
        obtain ⟨p4, q4, -, -⟩ := two_cells HBa.out
        obtain ⟨p5, q5, -, -⟩ := two_cells HBb.out
        go_wp2_with fail
        refine (idiv_any HIa.out HIb.out HNE.out (by decide) (by decide)).mono ?_
        rintro e w3 ⟨hb3, q3, r3, rfl, hq3, hr3⟩
        obtain ⟨sq3, uq3, rfl, hsq3, hnq3⟩ := hq3
        obtain ⟨oq3, kq3, cq3, rfl⟩ := hnq3.form
        obtain ⟨sr3, ur3, rfl, hsr3, hnr3⟩ := hr3
        obtain ⟨or3, kr3, cr3, rfl⟩ := hnr3.form
        have hJq : IntV 627 w3 (.agg #[.bool sq3, .slice oq3 kq3 cq3]) (z1 / z2) := ⟨_, _, rfl, hsq3, hnq3⟩
        have hJr : IntV 627 w3 (.agg #[.bool sr3, .slice or3 kr3 cr3]) (z1 % z2) := ⟨_, _, rfl, hsr3, hnr3⟩
        replace HBa := Kept.mk (HBa.out.below hb3)
        replace HIa := Kept.mk (HIa.out.below hb3)
        replace HBx := Kept.mk (HBx.out.below hb3)
        replace HIx := Kept.mk (HIx.out.below hb3)
        replace HBb := Kept.mk (HBb.out.below hb3)
        replace HIb := Kept.mk (HIb.out.below hb3)
        replace HBy := Kept.mk (HBy.out.below hb3)
        replace HIy := Kept.mk (HIy.out.below hb3)
        replace HW := Kept.mk (HW.out.trans (Below.mono hb3 HW.out.size))
        clear hb3 hsq3 hnq3 hsr3 hnr3 p4 q4 p5 q5
        have hal6 : Below w3.heap.size w3 ((w3.alloc (.cells #[.bool sq3, .slice oq3 kq3 cq3] 30)).alloc (.cells #[.bool sr3, .slice or3 kr3 cr3] 30)) := ((Below.refl _ _).alloc (Nat.le_refl _) _).alloc (by simp) _
        replace HBa := Kept.mk (HBa.out.below hal6)
        replace HIa := Kept.mk (HIa.out.below hal6)
        replace HBx := Kept.mk (HBx.out.below hal6)
        replace HIx := Kept.mk (HIx.out.below hal6)
        replace HBb := Kept.mk (HBb.out.below hal6)
        replace HIb := Kept.mk (HIb.out.below hal6)
        replace HBy := Kept.mk (HBy.out.below hal6)
        replace HIy := Kept.mk (HIy.out.below hal6)
        replace HW := Kept.mk (HW.out.trans (Below.mono hal6 HW.out.size))
        have HBq : Kept (Hb ((w3.alloc (.cells #[.bool sq3, .slice oq3 kq3 cq3] 30)).alloc (.cells #[.bool sr3, .slice or3 kr3 cr3] 30)) w3.heap.size (.bool sq3) (.slice oq3 kq3 cq3)) := ⟨(Hb.new _ _ _ _ rfl).more _⟩
        have HIq : Kept (IntV 627 ((w3.alloc (.cells #[.bool sq3, .slice oq3 kq3 cq3] 30)).alloc (.cells #[.bool sr3, .slice or3 kr3 cr3] 30)) (.agg #[.bool sq3, .slice oq3 kq3 cq3]) (z1 / z2)) := ⟨hJq.below hal6⟩
        have HBr : Kept (Hb ((w3.alloc (.cells #[.bool sq3, .slice oq3 kq3 cq3] 30)).alloc (.cells #[.bool sr3, .slice or3 kr3 cr3] 30)) (w3.heap.size + 1) (.bool sr3) (.slice or3 kr3 cr3)) := ⟨Hb.new _ _ _ _ (by simp)⟩
        have HIr : Kept (IntV 627 ((w3.alloc (.cells #[.bool sq3, .slice oq3 kq3 cq3] 30)).alloc (.cells #[.bool sr3, .slice or3 kr3 cr3] 30)) (.agg #[.bool sr3, .slice or3 kr3 cr3]) (z1 % z2)) := ⟨hJr.below hal6⟩
        clear hal6 hJq hJr
        obtain ⟨p8, q8, -, -⟩ := two_cells HBy.out
        go_wp2_with fail
        refine (rsignz_any HIy.out).mono ?_
        rintro e w7 ⟨hb7, he7⟩
        rw [HSG.out] at he7
        subst he7
        replace HBa := Kept.mk (HBa.out.below hb7)
        replace HIa := Kept.mk (HIa.out.below hb7)
        replace HBx := Kept.mk (HBx.out.below hb7)
        replace HIx := Kept.mk (HIx.out.below hb7)
        replace HBb := Kept.mk (HBb.out.below hb7)
        replace HIb := Kept.mk (HIb.out.below hb7)
        replace HBy := Kept.mk (HBy.out.below hb7)
        replace HIy := Kept.mk (HIy.out.below hb7)
        replace HBq := Kept.mk (HBq.out.below hb7)
        replace HIq := Kept.mk (HIq.out.below hb7)
        replace HBr := Kept.mk (HBr.out.below hb7)
        replace HIr := Kept.mk (HIr.out.below hb7)
        replace HW := Kept.mk (HW.out.trans (Below.mono hb7 HW.out.size))
        clear hb7 p8 q8
        obtain ⟨p10, q10, -, -⟩ := two_cells HBx.out
        obtain ⟨p11, q11, -, -⟩ := two_cells HBy.out
        go_wp2_with fail
        refine (rdivz_any HIx.out HIy.out HNE.out (by decide) (by decide)).mono ?_
        rintro e w9 ⟨hb9, q9, r9, rfl, hq9, hr9⟩
        obtain ⟨sq9, uq9, rfl, hsq9, hnq9⟩ := hq9
        obtain ⟨oq9, kq9, cq9, rfl, _, _⟩ := hnq9.form
        obtain ⟨sr9, ur9, rfl, hsr9, hnr9⟩ := hr9
        obtain ⟨or9, kr9, cr9, rfl, _, _⟩ := hnr9.form
        have hJq : ZV 703 w9 (.agg #[.bool sq9, .slice oq9 kq9 cq9]) (z1 / z2) := ⟨_, _, rfl, hsq9, hnq9⟩
        have hJr : ZV 701 w9 (.agg #[.bool sr9, .slice or9 kr9 cr9]) (z1 % z2) := ⟨_, _, rfl, hsr9, hnr9⟩
        replace HBa := Kept.mk (HBa.out.below hb9)
        replace HIa := Kept.mk (HIa.out.below hb9)
        replace HBx := Kept.mk (HBx.out.below hb9)
        replace HIx := Kept.mk (HIx.out.below hb9)
        replace HBb := Kept.mk (HBb.out.below hb9)
        replace HIb := Kept.mk (HIb.out.below hb9)
        replace HBy := Kept.mk (HBy.out.below hb9)
        replace HIy := Kept.mk (HIy.out.below hb9)
        replace HBq := Kept.mk (HBq.out.below hb9)
        replace HIq := Kept.mk (HIq.out.below hb9)
        replace HBr := Kept.mk (HBr.out.below hb9)
        replace HIr := Kept.mk (HIr.out.below hb9)
        replace HW := Kept.mk (HW.out.trans (Below.mono hb9 HW.out.size))
        clear hb9 hsq9 hnq9 hsr9 hnr9 p10 q10 p11 q11
        have hal12 : Below w9.heap.size w9 ((w9.alloc (.cells #[.bool sq9, .slice oq9 kq9 cq9] 25)).alloc (.cells #[.bool sr9, .slice or9 kr9 cr9] 25)) := ((Below.refl _ _).alloc (Nat.le_refl _) _).alloc (by simp) _
        replace HBa := Kept.mk (HBa.out.below hal12)
        replace HIa := Kept.mk (HIa.out.below hal12)
        replace HBx := Kept.mk (HBx.out.below hal12)
        replace HIx := Kept.mk (HIx.out.below hal12)
        replace HBb := Kept.mk (HBb.out.below hal12)
        replace HIb := Kept.mk (HIb.out.below hal12)
        replace HBy := Kept.mk (HBy.out.below hal12)
        replace HIy := Kept.mk (HIy.out.below hal12)
        replace HBq := Kept.mk (HBq.out.below hal12)
        replace HIq := Kept.mk (HIq.out.below hal12)
        replace HBr := Kept.mk (HBr.out.below hal12)
        replace HIr := Kept.mk (HIr.out.below hal12)
        replace HW := Kept.mk (HW.out.trans (Below.mono hal12 HW.out.size))
        have HBu : Kept (Hz ((w9.alloc (.cells #[.bool sq9, .slice oq9 kq9 cq9] 25)).alloc (.cells #[.bool sr9, .slice or9 kr9 cr9] 25)) w9.heap.size (.bool sq9) (.slice oq9 kq9 cq9)) := ⟨(Hz.new _ _ _ _ rfl).more _⟩
        have HIu : Kept (ZV 703 ((w9.alloc (.cells #[.bool sq9, .slice oq9 kq9 cq9] 25)).alloc (.cells #[.bool sr9, .slice or9 kr9 cr9] 25)) (.agg #[.bool sq9, .slice oq9 kq9 cq9]) (z1 / z2)) := ⟨hJq.below hal12⟩
        have HBv : Kept (Hz ((w9.alloc (.cells #[.bool sq9, .slice oq9 kq9 cq9] 25)).alloc (.cells #[.bool sr9, .slice or9 kr9 cr9] 25)) (w9.heap.size + 1) (.bool sr9) (.slice or9 kr9 cr9)) := ⟨Hz.new _ _ _ _ (by simp)⟩
        have HIv : Kept (ZV 701 ((w9.alloc (.cells #[.bool sq9, .slice oq9 kq9 cq9] 25)).alloc (.cells #[.bool sr9, .slice or9 kr9 cr9] 25)) (.agg #[.bool sr9, .slice or9 kr9 cr9]) (z1 % z2)) := ⟨hJr.below hal12⟩
        clear hal12 hJq hJr
        obtain ⟨p14, q14, -, -⟩ := two_cells HBq.out
        obtain ⟨p15, q15, -, -⟩ := two_cells HBu.out
        go_wp2_with fail
        refine (is_any HIq.out HIu.out (by decide) (by decide)).mono ?_
        rintro e w13 ⟨hb13, he13⟩
        subst he13
        replace HBa := Kept.mk (HBa.out.below hb13)
        replace HIa := Kept.mk (HIa.out.below hb13)
        replace HBx := Kept.mk (HBx.out.below hb13)
        replace HIx := Kept.mk (HIx.out.below hb13)
        replace HBb := Kept.mk (HBb.out.below hb13)
        replace HIb := Kept.mk (HIb.out.below hb13)
        replace HBy := Kept.mk (HBy.out.below hb13)
        replace HIy := Kept.mk (HIy.out.below hb13)
        replace HBq := Kept.mk (HBq.out.below hb13)
        replace HIq := Kept.mk (HIq.out.below hb13)
        replace HBr := Kept.mk (HBr.out.below hb13)
        replace HIr := Kept.mk (HIr.out.below hb13)
        replace HBu := Kept.mk (HBu.out.below hb13)
        replace HIu := Kept.mk (HIu.out.below hb13)
        replace HBv := Kept.mk (HBv.out.below hb13)
        replace HIv := Kept.mk (HIv.out.below hb13)
        replace HW := Kept.mk (HW.out.trans (Below.mono hb13 HW.out.size))
        clear hb13 p14 q14 p15 q15
        obtain ⟨p17, q17, -, -⟩ := two_cells HBr.out
        obtain ⟨p18, q18, -, -⟩ := two_cells HBv.out
        go_wp2_with fail
        refine (is_any HIr.out HIv.out (by decide) (by decide)).mono ?_
        rintro e w16 ⟨hb16, he16⟩
        subst he16
        replace HBa := Kept.mk (HBa.out.below hb16)
        replace HIa := Kept.mk (HIa.out.below hb16)
        replace HBx := Kept.mk (HBx.out.below hb16)
        replace HIx := Kept.mk (HIx.out.below hb16)
        replace HBb := Kept.mk (HBb.out.below hb16)
        replace HIb := Kept.mk (HIb.out.below hb16)
        replace HBy := Kept.mk (HBy.out.below hb16)
        replace HIy := Kept.mk (HIy.out.below hb16)
        replace HBq := Kept.mk (HBq.out.below hb16)
        replace HIq := Kept.mk (HIq.out.below hb16)
        replace HBr := Kept.mk (HBr.out.below hb16)
        replace HIr := Kept.mk (HIr.out.below hb16)
        replace HBu := Kept.mk (HBu.out.below hb16)
        replace HIu := Kept.mk (HIu.out.below hb16)
        replace HBv := Kept.mk (HBv.out.below hb16)
        replace HIv := Kept.mk (HIv.out.below hb16)
        replace HW := Kept.mk (HW.out.trans (Below.mono hb16 HW.out.size))
        clear hb16 p17 q17 p18 q18
        go_wp2_with fail
        refine (awake_any _).mono ?_
        rintro e w19 ⟨hb19, he19⟩
        subst he19
        replace HBa := Kept.mk (HBa.out.below hb19)
        replace HIa := Kept.mk (HIa.out.below hb19)
        replace HBx := Kept.mk (HBx.out.below hb19)
        replace HIx := Kept.mk (HIx.out.below hb19)
        replace HBb := Kept.mk (HBb.out.below hb19)
        replace HIb := Kept.mk (HIb.out.below hb19)
        replace HBy := Kept.mk (HBy.out.below hb19)
        replace HIy := Kept.mk (HIy.out.below hb19)
        replace HBq := Kept.mk (HBq.out.below hb19)
        replace HIq := Kept.mk (HIq.out.below hb19)
        replace HBr := Kept.mk (HBr.out.below hb19)
        replace HIr := Kept.mk (HIr.out.below hb19)
        replace HBu := Kept.mk (HBu.out.below hb19)
        replace HIu := Kept.mk (HIu.out.below hb19)
        replace HBv := Kept.mk (HBv.out.below hb19)
        replace HIv := Kept.mk (HIv.out.below hb19)
        replace HW := Kept.mk (HW.out.trans (Below.mono hb19 HW.out.size))
        clear hb19 
        go_wp2
        go_ret
        exact ⟨HW.out, rfl⟩
end Go.Proofs.YtblbheilddafbaaGreatDoor

set_option linter.unusedVariables false
namespace Go.Proofs.YtblbheilddafbaaGreatDoor.tallyDivides
open Go Go.ChangeShapes Go.WideShapes Go.ChangeAt Go.RowKit Go.Proofs.YtblbheilddafbaaGreatDoor
open Go.ChangeMaps (open_string shut_string)
set_option maxRecDepth 100000 in
theorem contract (H : Type) (enc : TypeId × Value → H) (W : World) (base : Nat) (args : Array Value) (ds gs : List (DataW H)) (before : List MemPlace)
    (hval : ∀ (j : Nat) t v, Tryz.f7.params[j]? = some t → args[j]? = some v → Value.okWide Tryz.prog W .any base t v)
    (hW : DataW.Whole enc Tryz.prog Tryz.f7.params.toList Rows.tallyDividesSpec.vars false W args.toList ds gs before) (ts : List TypeId) (hsz : (DataW.weightsEach Tryz.prog (Tryz.f7.params.toList ++ ts) (ds ++ gs)).all (· ≤ reachBytes) = true) :
    Calls Tryz.prog 7 args W fun e W' => ∃ v, e = .returned v ∧ Rows.tallyDividesSpec.post enc Tryz.prog Tryz.f7 false true false false W args v W' := by
  have hW' := hW
  obtain ⟨p, q, hA0, hV, rfl, hfz, hnd⟩ := hW
  have hA : DataW.TrodAll enc Tryz.prog W 0 (fun _ => true) true Tryz.f7.params.toList args.toList ds p := hA0
  rw [Tryz.params7] at hA hval hsz
  obtain ⟨v0, vs0, d0, ds0, p0, q0, hargs, rfl, rfl, h0, r0⟩ := trodAll_cons hA
  obtain ⟨v1, vs1, d1, ds1, p1, q1, rfl, rfl, rfl, h1, r1⟩ := trodAll_cons r0
  obtain ⟨rfl, rfl, rfl⟩ := trodAll_nil r1
  obtain rfl : args = #[v0, v1] := Array.toList_inj.1 hargs
  obtain ⟨rfl, rfl⟩ := trodVars_none hV
  obtain ⟨a0, rfl, rfl, rfl, w0⟩ := open_string Tryz.underlying9 (hval 0 9 v0 rfl rfl) h0
  obtain ⟨a1, rfl, rfl, rfl, w1⟩ := open_string Tryz.underlying9 (hval 1 9 v1 rfl rfl) h1
  clear hA0
  simp only [List.append_nil] at hW'
  have hr0 : a0.size ≤ 140737488355328 := by
    have h := sized_string hsz (j := 0) (t := 9) (bytes := a0.data.toList) rfl rfl
    have hl : a0.data.toList.length = a0.size := Array.length_toList
    have hq := reachBytes_lt
    omega
  have hr1 : a1.size ≤ 140737488355328 := by
    have h := sized_string hsz (j := 1) (t := 9) (bytes := a1.data.toList) rfl rfl
    have hl : a1.data.toList.length = a1.size := Array.length_toList
    have hq := reachBytes_lt
    omega
  refine (tallyDivides_any a0 a1 W hr0 hr1).mono fun e W' ⟨hb, he⟩ => ?_
  subst he
  exact ⟨_, rfl, post_of_below (pa := []) (pv := []) hW' (fun _ _ _ => trodAll_cons_mk (shut_bool Tryz.underlying4 _) trodAll_mk0) (fun _ _ => trodAll_cons_mk (shut_string Tryz.underlying9 w0) (trodAll_cons_mk (shut_string Tryz.underlying9 w1) trodAll_mk0)) (fun _ _ => rfl) rfl
    hb (ok_one (by kernel_rfl) rfl (okWide_bool_mk Tryz.underlying4 _))⟩
end Go.Proofs.YtblbheilddafbaaGreatDoor.tallyDivides
