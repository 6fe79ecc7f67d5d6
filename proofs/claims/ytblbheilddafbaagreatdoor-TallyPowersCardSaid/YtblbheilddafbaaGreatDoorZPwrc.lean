/-
  Texts of the proof, merged by program: Pwr Pwrc.
-/
import Derived.Test.YtblbheilddafbaaGreatDoorZRpw
import Derived.Test.YtblbheilddafbaaGreatDoorZ22
import Derived.SizedLaws
import Derived.ChangeMaps5
set_option linter.unusedVariables false
set_option linter.unusedSimpArgs false
namespace Go.Proofs.YtblbheilddafbaaGreatDoor
open Go Go.RowKit
theorem small_TP : smallB ((TP 2000 : Nat) : Int) = true := by decide +kernel
theorem ten_two (q : Nat) : 2 ^ (33 * q) ≤ 10 ^ (10 * q) := by
  rw [Nat.pow_mul, Nat.pow_mul]
  exact Nat.pow_le_pow_left (by decide) q
theorem TP_le {m n : Nat} (h : m ≤ n) : 10 ^ m ≤ TP n := Nat.pow_le_pow_right (by omega) h
theorem pw_large {z : Int} {d n : Nat} (h : LenIs (z.natAbs : Int) d) (hb : (40000 : Int) < ((d : Int) - 1) * n / 10 * 33) : smallB (z ^ n).natAbs = false := by
  have hd1 := h.one
  obtain ⟨D, rfl⟩ : ∃ D, d = D + 1 := ⟨d - 1, by omega⟩
  have e1 : ((D + 1 : Nat) : Int) - 1 = (D : Int) := by omega
  rw [e1, ← Int.natCast_mul] at hb
  have hp : 0 < (z.natAbs : Int) := by
    apply Classical.byContradiction
    intro hc
    have h0 := h.zero (by omega)
    have hD : D = 0 := by omega
    subst hD
    simp at hb
  have hlo := h.lo hp
  simp only [Nat.add_sub_cancel] at hlo
  have hlo2 : 10 ^ D ≤ z.natAbs := by
    have : ((10 ^ D : Nat) : Int) = 10 ^ D := by rw [Int.natCast_pow]; rfl
    omega
  obtain ⟨q, hq⟩ : ∃ q, q = D * n / 10 := ⟨_, rfl⟩
  have hq1 : 10 * q ≤ D * n := by omega
  have hq2 : 40000 ≤ 33 * q := by omega
  have c1 : 2 ^ (33 * q) ≤ z.natAbs ^ n := by
    refine Nat.le_trans (ten_two q) (Nat.le_trans (Nat.pow_le_pow_right (by omega) hq1) ?_)
    rw [Nat.pow_mul]
    exact Nat.pow_le_pow_left hlo2 n
  have c2 := large_two (n := 33 * q) hq2
  rw [Int.natAbs_pow] at c2 ⊢
  exact smallB_mono c2 c1
theorem pw_small {z : Int} {d n : Nat} (h : LenIs (z.natAbs : Int) d) (hb : ¬ (2000 : Int) < (d : Int) * n) : smallB (z ^ n).natAbs = true := by
  rw [← Int.natCast_mul] at hb
  have h1 : z.natAbs ≤ 10 ^ d := by
    have : ((10 ^ d : Nat) : Int) = 10 ^ d := by rw [Int.natCast_pow]; rfl
    have := h.hi
    omega
  refine small_le small_TP ?_
  rw [Int.natAbs_pow]
  refine Nat.le_trans (Nat.pow_le_pow_left h1 n) ?_
  rw [← Nat.pow_mul]
  exact TP_le (by omega)
set_option maxRecDepth 20000 in
set_option maxHeartbeats 4000000 in
theorem tallyPowers_any (s : ByteArray) (n0 : Int) (w : World) (hs : s.size ≤ 140737488355328) (h0 : -9223372036854775808 ≤ n0) (h1 : n0 ≤ 9223372036854775807) :
    Calls Tryz.prog 8 #[.string s, .int .i64 n0] w (RetV w (.bool true)) := by
  have HW : Kept (Below w.heap.size w w) := ⟨Below.refl _ _⟩
  have hnot : ∀ (x : Bool) (w : World), (Op.unary .not (.bool x)).run Tryz.prog w = .ok (.bool (!x)) w := fun _ _ => rfl
  go_enter Tryz.func8, Tryz.ntmps8
  go_wp2_with fail
  refine (whole_any s _ hs).mono ?_
  rintro e w1 ⟨hb1, sa1, ao1, ka1, ca1, sb1, bo1, kb1, cb1, ok1, rfl, hy1⟩
  replace HW := Kept.mk (HW.out.trans (Below.mono hb1 HW.out.size))
  have HY1 := Kept.mk hy1
  clear hb1 hy1
  have hal1 : Below w1.heap.size w1 ((w1.alloc (.cells #[.bool sa1, .slice ao1 ka1 ca1] 30)).alloc (.cells #[.bool sb1, .slice bo1 kb1 cb1] 25)) := ((Below.refl _ _).alloc (Nat.le_refl _) _).alloc (by simp) _
  replace HW := Kept.mk (HW.out.trans (Below.mono hal1 HW.out.size))
  have HBa1 : Kept (Hb ((w1.alloc (.cells #[.bool sa1, .slice ao1 ka1 ca1] 30)).alloc (.cells #[.bool sb1, .slice bo1 kb1 cb1] 25)) w1.heap.size (.bool sa1) (.slice ao1 ka1 ca1)) := ⟨(Hb.new _ _ _ _ rfl).more _⟩
  have HBx1 : Kept (Hz ((w1.alloc (.cells #[.bool sa1, .slice ao1 ka1 ca1] 30)).alloc (.cells #[.bool sb1, .slice bo1 kb1 cb1] 25)) (w1.heap.size + 1) (.bool sb1) (.slice bo1 kb1 cb1)) := ⟨Hz.new _ _ _ _ (by simp)⟩
  have HAL1 := Kept.mk hal1
  clear hal1
  cases ok1
  · skip
    clear HBa1 HBx1 HY1 HAL1
    go_wp2_with fail
    refine (awake_any _).mono ?_
    rintro e w2 ⟨hb2, he2⟩
    subst he2
    replace HW := Kept.mk (HW.out.trans (Below.mono hb2 HW.out.size))
    clear hb2 
    go_wp2
    go_ret
    exact ⟨HW.out, rfl⟩
  · skip
    obtain ⟨z, hz1, hl1, hsm1, hI1, hZ1⟩ := HY1.out rfl
    have HZ1 := Kept.mk hz1
    have HL1 := Kept.mk hl1
    have HSM1 := Kept.mk hsm1
    have HIa := Kept.mk (hI1.below HAL1.out)
    have HIx := Kept.mk (hZ1.below HAL1.out)
    have HBa := HBa1
    have HBx := HBx1
    clear hz1 hl1 hsm1 hI1 hZ1 HBa1 HBx1 HY1 HAL1
    by_cases hn : n0 < 0 ∨ 10000 < n0
    · skip
      obtain ⟨p3, q3, -, -⟩ := two_cells HBa.out
      go_wp2_with fail
      refine (pow_arg HIa.out hn h0 h1).mono ?_
      rintro e w2 ⟨hb2, rfl⟩
      replace HBa := Kept.mk (HBa.out.below hb2)
      replace HIa := Kept.mk (HIa.out.below hb2)
      replace HBx := Kept.mk (HBx.out.below hb2)
      replace HIx := Kept.mk (HIx.out.below hb2)
      replace HW := Kept.mk (HW.out.trans (Below.mono hb2 HW.out.size))
      clear hb2 p3 q3
      have hI2 : IntV 625 w2 (.agg #[.bool false, .slice none 0 0]) 0 := zeroInt w2
      have hal4 : Below w2.heap.size w2 (w2.alloc (.cells #[.bool false, .slice none 0 0] 30)) := (Below.refl _ _).alloc (Nat.le_refl _) _
      replace HBa := Kept.mk (HBa.out.below hal4)
      replace HIa := Kept.mk (HIa.out.below hal4)
      replace HBx := Kept.mk (HBx.out.below hal4)
      replace HIx := Kept.mk (HIx.out.below hal4)
      replace HW := Kept.mk (HW.out.trans (Below.mono hal4 HW.out.size))
      have HBp : Kept (Hb (w2.alloc (.cells #[.bool false, .slice none 0 0] 30)) w2.heap.size (.bool false) (.slice none 0 0)) := ⟨Hb.new _ _ _ _ rfl⟩
      have HIp : Kept (IntV 625 (w2.alloc (.cells #[.bool false, .slice none 0 0] 30)) (.agg #[.bool false, .slice none 0 0]) 0) := ⟨hI2.below hal4⟩
      clear hal4 hI2
      rcases hn with hn | hn
      · skip
        obtain ⟨p6, q6, -, -⟩ := two_cells HBp.out
        go_wp2_with fail
        refine (sign_any HIp.out).mono ?_
        rintro e w5 ⟨hb5, he5⟩
        subst he5
        replace HBa := Kept.mk (HBa.out.below hb5)
        replace HIa := Kept.mk (HIa.out.below hb5)
        replace HBx := Kept.mk (HBx.out.below hb5)
        replace HIx := Kept.mk (HIx.out.below hb5)
        replace HBp := Kept.mk (HBp.out.below hb5)
        replace HIp := Kept.mk (HIp.out.below hb5)
        replace HW := Kept.mk (HW.out.trans (Below.mono hb5 HW.out.size))
        clear hb5 p6 q6
        go_wp2_with fail
        refine (awake_any _).mono ?_
        rintro e w7 ⟨hb7, he7⟩
        subst he7
        replace HBa := Kept.mk (HBa.out.below hb7)
        replace HIa := Kept.mk (HIa.out.below hb7)
        replace HBx := Kept.mk (HBx.out.below hb7)
        replace HIx := Kept.mk (HIx.out.below hb7)
        replace HBp := Kept.mk (HBp.out.below hb7)
        replace HIp := Kept.mk (HIp.out.below hb7)
        replace HW := Kept.mk (HW.out.trans (Below.mono hb7 HW.out.size))
        clear hb7 
        go_wp2
        go_ret
        exact ⟨HW.out, rfl⟩
      · skip
        obtain ⟨p6, q6, -, -⟩ := two_cells HBp.out
        go_wp2_with fail
        refine (sign_any HIp.out).mono ?_
        rintro e w5 ⟨hb5, he5⟩
        subst he5
        replace HBa := Kept.mk (HBa.out.below hb5)
        replace HIa := Kept.mk (HIa.out.below hb5)
        replace HBx := Kept.mk (HBx.out.below hb5)
        replace HIx := Kept.mk (HIx.out.below hb5)
        replace HBp := Kept.mk (HBp.out.below hb5)
        replace HIp := Kept.mk (HIp.out.below hb5)
        replace HW := Kept.mk (HW.out.trans (Below.mono hb5 HW.out.size))
        clear hb5 p6 q6
        go_wp2_with fail
        refine (awake_any _).mono ?_
        rintro e w7 ⟨hb7, he7⟩
        subst he7
        replace HBa := Kept.mk (HBa.out.below hb7)
        replace HIa := Kept.mk (HIa.out.below hb7)
        replace HBx := Kept.mk (HBx.out.below hb7)
        replace HIx := Kept.mk (HIx.out.below hb7)
        replace HBp := Kept.mk (HBp.out.below hb7)
        replace HIp := Kept.mk (HIp.out.below hb7)
        replace HW := Kept.mk (HW.out.trans (Below.mono hb7 HW.out.size))
        clear hb7 
        go_wp2
        go_ret
        exact ⟨HW.out, rfl⟩
    · skip
      obtain ⟨n, rfl⟩ : ∃ n : Nat, n0 = n := ⟨n0.toNat, by omega⟩
      have hn1 : n ≤ 10000 := by omega
      clear hn
      have HLN := Kept.mk (lenIs_dec z.natAbs)
      obtain ⟨d, hd⟩ : ∃ d, (Dg.decN z.natAbs).length = d := ⟨_, rfl⟩
      rw [hd] at HLN
      have hd1 : d ≤ 700 := by have h1 := HL1.out; rw [HZ1.out] at h1; unfold Dg.decZ at h1; split at h1 <;> (try simp at h1) <;> omega
      have hd0 := HLN.out.one
      obtain ⟨P, hP⟩ : ∃ P, ((d : Int) - 1) * (n : Int) = P := ⟨_, rfl⟩
      obtain ⟨Q, hQ⟩ : ∃ Q, (d : Int) * (n : Int) = Q := ⟨_, rfl⟩
      have hP0 : 0 ≤ P := by rw [← hP]; exact Int.mul_nonneg (by omega) (by omega)
      have hP1 : P ≤ 700 * 10000 := by rw [← hP]; exact Int.le_trans (Int.mul_le_mul_of_nonneg_right (show (d : Int) - 1 ≤ 700 by omega) (by omega)) (Int.mul_le_mul_of_nonneg_left (by omega) (by omega))
      have hQ0 : 0 ≤ Q := by rw [← hQ]; exact Int.mul_nonneg (by omega) (by omega)
      have hQ1 : Q ≤ 700 * 10000 := by rw [← hQ]; exact Int.le_trans (Int.mul_le_mul_of_nonneg_right (show (d : Int) ≤ 700 by omega) (by omega)) (Int.mul_le_mul_of_nonneg_left (by omega) (by omega))
      have HPL : Kept ((40000 : Int) < P / 10 * 33 → smallB (z ^ n).natAbs = false) := ⟨fun h => pw_large HLN.out (by rw [hP]; exact h)⟩
      have HPS : Kept (¬ (2000 : Int) < Q → smallB (z ^ n).natAbs = true) := ⟨fun h => pw_small HLN.out (by rw [hQ]; exact h)⟩
      have HD := Kept.mk hd
      clear hd
      by_cases hbig : (40000 : Int) < P / 10 * 33
      · skip
        have hdb : decide ((40000 : Int) < P / 10 * 33) = true := decide_eq_true hbig
        have HSM := Kept.mk (HPL.out hbig)
        clear hbig
        obtain ⟨p3, q3, -, -⟩ := two_cells HBa.out
        go_wp2_with fail
        refine (pow_any (n := n) HIa.out (by decide) hn1).mono ?_
        rintro e w2 hR
        obtain ⟨hb2, rfl⟩ := hR.no HSM.out
        replace HBa := Kept.mk (HBa.out.below hb2)
        replace HIa := Kept.mk (HIa.out.below hb2)
        replace HBx := Kept.mk (HBx.out.below hb2)
        replace HIx := Kept.mk (HIx.out.below hb2)
        replace HW := Kept.mk (HW.out.trans (Below.mono hb2 HW.out.size))
        clear hb2 hR p3 q3
        have hI2 : IntV 625 w2 (.agg #[.bool false, .slice none 0 0]) 0 := zeroInt w2
        have hal4 : Below w2.heap.size w2 (w2.alloc (.cells #[.bool false, .slice none 0 0] 30)) := (Below.refl _ _).alloc (Nat.le_refl _) _
        replace HBa := Kept.mk (HBa.out.below hal4)
        replace HIa := Kept.mk (HIa.out.below hal4)
        replace HBx := Kept.mk (HBx.out.below hal4)
        replace HIx := Kept.mk (HIx.out.below hal4)
        replace HW := Kept.mk (HW.out.trans (Below.mono hal4 HW.out.size))
        have HBp : Kept (Hb (w2.alloc (.cells #[.bool false, .slice none 0 0] 30)) w2.heap.size (.bool false) (.slice none 0 0)) := ⟨Hb.new _ _ _ _ rfl⟩
        have HIp : Kept (IntV 625 (w2.alloc (.cells #[.bool false, .slice none 0 0] 30)) (.agg #[.bool false, .slice none 0 0]) 0) := ⟨hI2.below hal4⟩
        clear hal4 hI2
        obtain ⟨p6, q6, -, -⟩ := two_cells HBx.out
        go_wp2_with fail
        refine (rlen_any (n := z.natAbs) HIx.out.parts.2 (by decide)).mono ?_
        rintro e w5 ⟨rfl, rfl⟩
        rw [HD.out]
        clear p6 q6
        obtain ⟨p8, q8, -, -⟩ := two_cells HBp.out
        go_wp2_with fail
        refine (sign_any HIp.out).mono ?_
        rintro e w7 ⟨hb7, he7⟩
        subst he7
        replace HBa := Kept.mk (HBa.out.below hb7)
        replace HIa := Kept.mk (HIa.out.below hb7)
        replace HBx := Kept.mk (HBx.out.below hb7)
        replace HIx := Kept.mk (HIx.out.below hb7)
        replace HBp := Kept.mk (HBp.out.below hb7)
        replace HIp := Kept.mk (HIp.out.below hb7)
        replace HW := Kept.mk (HW.out.trans (Below.mono hb7 HW.out.size))
        clear hb7 p8 q8
        go_wp2_with fail
        refine (awake_any _).mono ?_
        rintro e w9 ⟨hb9, he9⟩
        subst he9
        replace HBa := Kept.mk (HBa.out.below hb9)
        replace HIa := Kept.mk (HIa.out.below hb9)
        replace HBx := Kept.mk (HBx.out.below hb9)
        replace HIx := Kept.mk (HIx.out.below hb9)
        replace HBp := Kept.mk (HBp.out.below hb9)
        replace HIp := Kept.mk (HIp.out.below hb9)
        replace HW := Kept.mk (HW.out.trans (Below.mono hb9 HW.out.size))
        clear hb9 
        go_wp2
        go_ret
        exact ⟨HW.out, rfl⟩
      · skip
        have hdb : decide ((40000 : Int) < P / 10 * 33) = false := decide_eq_false hbig
        clear hbig
        by_cases hbg2 : (2000 : Int) < Q
        · skip
          have hdq : decide ((2000 : Int) < Q) = true := decide_eq_true hbg2
          clear hbg2
          by_cases hsm : smallB (z ^ n).natAbs = true
          · skip
            have HSM := Kept.mk hsm
            clear hsm
            obtain ⟨p3, q3, -, -⟩ := two_cells HBa.out
            go_wp2_with fail
            refine (pow_any (n := n) HIa.out (by decide) hn1).mono ?_
            rintro e w2 hR
            obtain ⟨hb2, s2, o2, k2, c2, rfl, hI2⟩ := hR.yes HSM.out
            replace HBa := Kept.mk (HBa.out.below hb2)
            replace HIa := Kept.mk (HIa.out.below hb2)
            replace HBx := Kept.mk (HBx.out.below hb2)
            replace HIx := Kept.mk (HIx.out.below hb2)
            replace HW := Kept.mk (HW.out.trans (Below.mono hb2 HW.out.size))
            clear hb2 p3 q3 hR
            have hal4 : Below w2.heap.size w2 (w2.alloc (.cells #[.bool s2, .slice o2 k2 c2] 30)) := (Below.refl _ _).alloc (Nat.le_refl _) _
            replace HBa := Kept.mk (HBa.out.below hal4)
            replace HIa := Kept.mk (HIa.out.below hal4)
            replace HBx := Kept.mk (HBx.out.below hal4)
            replace HIx := Kept.mk (HIx.out.below hal4)
            replace HW := Kept.mk (HW.out.trans (Below.mono hal4 HW.out.size))
            have HBp : Kept (Hb (w2.alloc (.cells #[.bool s2, .slice o2 k2 c2] 30)) w2.heap.size (.bool s2) (.slice o2 k2 c2)) := ⟨Hb.new _ _ _ _ rfl⟩
            have HIp : Kept (IntV 625 (w2.alloc (.cells #[.bool s2, .slice o2 k2 c2] 30)) (.agg #[.bool s2, .slice o2 k2 c2]) (z ^ n)) := ⟨hI2.below hal4⟩
            clear hal4 hI2
            obtain ⟨p6, q6, -, -⟩ := two_cells HBx.out
            go_wp2_with fail
            refine (rlen_any (n := z.natAbs) HIx.out.parts.2 (by decide)).mono ?_
            rintro e w5 ⟨rfl, rfl⟩
            rw [HD.out]
            clear p6 q6
            go_wp2_with fail
            refine (awake_any _).mono ?_
            rintro e w7 ⟨hb7, he7⟩
            subst he7
            replace HBa := Kept.mk (HBa.out.below hb7)
            replace HIa := Kept.mk (HIa.out.below hb7)
            replace HBx := Kept.mk (HBx.out.below hb7)
            replace HIx := Kept.mk (HIx.out.below hb7)
            replace HBp := Kept.mk (HBp.out.below hb7)
            replace HIp := Kept.mk (HIp.out.below hb7)
            replace HW := Kept.mk (HW.out.trans (Below.mono hb7 HW.out.size))
            clear hb7 
            go_wp2
            go_ret
            exact ⟨HW.out, rfl⟩
          · skip
            have HSM : Kept (smallB (z ^ n).natAbs = false) := ⟨by simpa using hsm⟩
            clear hsm
            obtain ⟨p3, q3, -, -⟩ := two_cells HBa.out
            go_wp2_with fail
            refine (pow_any (n := n) HIa.out (by decide) hn1).mono ?_
            rintro e w2 hR
            obtain ⟨hb2, rfl⟩ := hR.no HSM.out
            replace HBa := Kept.mk (HBa.out.below hb2)
            replace HIa := Kept.mk (HIa.out.below hb2)
            replace HBx := Kept.mk (HBx.out.below hb2)
            replace HIx := Kept.mk (HIx.out.below hb2)
            replace HW := Kept.mk (HW.out.trans (Below.mono hb2 HW.out.size))
            clear hb2 hR p3 q3
            have hI2 : IntV 625 w2 (.agg #[.bool false, .slice none 0 0]) 0 := zeroInt w2
            have hal4 : Below w2.heap.size w2 (w2.alloc (.cells #[.bool false, .slice none 0 0] 30)) := (Below.refl _ _).alloc (Nat.le_refl _) _
            replace HBa := Kept.mk (HBa.out.below hal4)
            replace HIa := Kept.mk (HIa.out.below hal4)
            replace HBx := Kept.mk (HBx.out.below hal4)
            replace HIx := Kept.mk (HIx.out.below hal4)
            replace HW := Kept.mk (HW.out.trans (Below.mono hal4 HW.out.size))
            have HBp : Kept (Hb (w2.alloc (.cells #[.bool false, .slice none 0 0] 30)) w2.heap.size (.bool false) (.slice none 0 0)) := ⟨Hb.new _ _ _ _ rfl⟩
            have HIp : Kept (IntV 625 (w2.alloc (.cells #[.bool false, .slice none 0 0] 30)) (.agg #[.bool false, .slice none 0 0]) 0) := ⟨hI2.below hal4⟩
            clear hal4 hI2
            obtain ⟨p6, q6, -, -⟩ := two_cells HBx.out
            go_wp2_with fail
            refine (rlen_any (n := z.natAbs) HIx.out.parts.2 (by decide)).mono ?_
            rintro e w5 ⟨rfl, rfl⟩
            rw [HD.out]
            clear p6 q6
            go_wp2_with fail
            refine (awake_any _).mono ?_
            rintro e w7 ⟨hb7, he7⟩
            subst he7
            replace HBa := Kept.mk (HBa.out.below hb7)
            replace HIa := Kept.mk (HIa.out.below hb7)
            replace HBx := Kept.mk (HBx.out.below hb7)
            replace HIx := Kept.mk (HIx.out.below hb7)
            replace HBp := Kept.mk (HBp.out.below hb7)
            replace HIp := Kept.mk (HIp.out.below hb7)
            replace HW := Kept.mk (HW.out.trans (Below.mono hb7 HW.out.size))
            clear hb7 
            go_wp2
            go_ret
            exact ⟨HW.out, rfl⟩
        · skip
          have hdq : decide ((2000 : Int) < Q) = false := decide_eq_false hbg2
          have HSM := Kept.mk (HPS.out hbg2)
          clear hbg2
          obtain ⟨p3, q3, -, -⟩ := two_cells HBa.out
          go_wp2_with fail
          refine (pow_any (n := n) HIa.out (by decide) hn1).mono ?_
          rintro e w2 hR
          obtain ⟨hb2, s2, o2, k2, c2, rfl, hI2⟩ := hR.yes HSM.out
          replace HBa := Kept.mk (HBa.out.below hb2)
          replace HIa := Kept.mk (HIa.out.below hb2)
          replace HBx := Kept.mk (HBx.out.below hb2)
          replace HIx := Kept.mk (HIx.out.below hb2)
          replace HW := Kept.mk (HW.out.trans (Below.mono hb2 HW.out.size))
          clear hb2 p3 q3 hR
          have hal4 : Below w2.heap.size w2 (w2.alloc (.cells #[.bool s2, .slice o2 k2 c2] 30)) := (Below.refl _ _).alloc (Nat.le_refl _) _
          replace HBa := Kept.mk (HBa.out.below hal4)
          replace HIa := Kept.mk (HIa.out.below hal4)
          replace HBx := Kept.mk (HBx.out.below hal4)
          replace HIx := Kept.mk (HIx.out.below hal4)
          replace HW := Kept.mk (HW.out.trans (Below.mono hal4 HW.out.size))
          have HBp : Kept (Hb (w2.alloc (.cells #[.bool s2, .slice o2 k2 c2] 30)) w2.heap.size (.bool s2) (.slice o2 k2 c2)) := ⟨Hb.new _ _ _ _ rfl⟩
          have HIp : Kept (IntV 625 (w2.alloc (.cells #[.bool s2, .slice o2 k2 c2] 30)) (.agg #[.bool s2, .slice o2 k2 c2]) (z ^ n)) := ⟨hI2.below hal4⟩
          clear hal4 hI2
          obtain ⟨p6, q6, -, -⟩ := two_cells HBx.out
          go_wp2_with fail
          refine (rlen_any (n := z.natAbs) HIx.out.parts.2 (by decide)).mono ?_
          rintro e w5 ⟨rfl, rfl⟩
          rw [HD.out]
          clear p6 q6
          go_wp2_with fail
          generalize w2.alloc (.cells #[.bool s2, .slice o2 k2 c2] 30) = ws at *
          have hnl : n * 701 ≤ 10000 * 701 := Nat.mul_le_mul_right _ hn1
          have HPW : Kept (∀ W, Below ws.heap.size ws W → Calls Tryz.prog 48 #[(.agg #[.bool sb1, .slice bo1 kb1 cb1]), .int .i64 n] W (RetZ (64 + n * 701) W (z ^ n))) := ⟨fun W h => rpower_any (HIx.out.below h) (by decide) hn1⟩
          have HIS : Kept (∀ W v, Below ws.heap.size ws W → ZV (64 + n * 701) W v (z ^ n) → Calls Tryz.prog 27 #[(.agg #[.bool s2, .slice o2 k2 c2]), v] W (RetV W (.bool true))) := ⟨fun W v h hv => is_any (HIp.out.below h) hv (by decide) (by omega)⟩
          clear hnl
          obtain ⟨i0p, i1p, -, -⟩ := two_cells HBp.out
          obtain ⟨i0x, i1x, -, -⟩ := two_cells HBx.out
          go_region_held3 (fun w' => w'.cell? ⟨w2.heap.size, 0, none⟩ = some (.bool s2) ∧ w'.cell? ⟨w2.heap.size, 1, none⟩ = some (.slice o2 k2 c2) ∧ w'.cell? ⟨(w1.heap.size + 1), 0, none⟩ = some (.bool sb1) ∧ w'.cell? ⟨(w1.heap.size + 1), 1, none⟩ = some (.slice bo1 kb1 cb1))
            (first | exact ⟨l0p, l1p, l0x, l1x⟩ | exact ⟨k0p, k1p, k0x, k1x⟩ | exact ⟨j0p, j1p, j0x, j1x⟩ | exact ⟨i0p, i1p, i0x, i1x⟩ | go_keep)
            ((first
              | (go_at_call 48; (with_reducible refine (HPW.out _ ?h1).mono ?_); (case h1 => exact ((Bxs.start ws).drew).1); rintro e w1' ⟨hb1, v1, rfl, hV1⟩; have hy1 := Bxs.below ((Bxs.start ws).drew) hb1; obtain ⟨j0p, j1p, -, -⟩ := two_cells (HBp.out.below hy1.1); obtain ⟨j0x, j1x, -, -⟩ := two_cells (HBx.out.below hy1.1))
              | (go_at_call 27; (with_reducible refine (HIS.out _ _ ?h1 ?h2).mono ?_); (case h1 => exact hy1.1); (case h2 => exact hV1); rintro e w2' ⟨hb2, rfl⟩; have hy2 := Bxs.below hy1 hb2; obtain ⟨k0p, k1p, -, -⟩ := two_cells (HBp.out.below hy2.1); obtain ⟨k0x, k1x, -, -⟩ := two_cells (HBx.out.below hy2.1))
              | (go_at_call 21; refine (awake_any _).mono ?_; rintro e w3' ⟨hb3, rfl⟩; have hy3 := Bxs.below hy2 hb3; obtain ⟨l0p, l1p, -, -⟩ := two_cells (HBp.out.below hy3.1); obtain ⟨l0x, l1x, -, -⟩ := two_cells (HBx.out.below hy3.1))))
          have hfin : Below w.heap.size w w3' := HW.out.trans (hy3.1.mono HW.out.size)
          have HFIN := Kept.mk hfin
          go_wp2
          go_ret
          exact ⟨HFIN.out, rfl⟩
end Go.Proofs.YtblbheilddafbaaGreatDoor

set_option linter.unusedVariables false
namespace Go.Proofs.YtblbheilddafbaaGreatDoor.tallyPowers
open Go Go.ChangeShapes Go.WideShapes Go.ChangeAt Go.RowKit Go.Proofs.YtblbheilddafbaaGreatDoor
open Go.ChangeMaps (open_string shut_string)
set_option maxRecDepth 100000 in
theorem contract (H : Type) (enc : TypeId × Value → H) (W : World) (base : Nat) (args : Array Value) (ds gs : List (DataW H)) (before : List MemPlace)
    (hval : ∀ (j : Nat) t v, Tryz.f8.params[j]? = some t → args[j]? = some v → Value.okWide Tryz.prog W .any base t v)
    (hW : DataW.Whole enc Tryz.prog Tryz.f8.params.toList Rows.tallyPowersSpec.vars false W args.toList ds gs before) (ts : List TypeId) (hsz : (DataW.weightsEach Tryz.prog (Tryz.f8.params.toList ++ ts) (ds ++ gs)).all (· ≤ reachBytes) = true) :
    Calls Tryz.prog 8 args W fun e W' => ∃ v, e = .returned v ∧ Rows.tallyPowersSpec.post enc Tryz.prog Tryz.f8 false true false false W args v W' := by
  have hW' := hW
  obtain ⟨p, q, hA0, hV, rfl, hfz, hnd⟩ := hW
  have hA : DataW.TrodAll enc Tryz.prog W 0 (fun _ => true) true Tryz.f8.params.toList args.toList ds p := hA0
  rw [Tryz.params8] at hA hval hsz
  obtain ⟨v0, vs0, d0, ds0, p0, q0, hargs, rfl, rfl, h0, r0⟩ := trodAll_cons hA
  obtain ⟨v1, vs1, d1, ds1, p1, q1, rfl, rfl, rfl, h1, r1⟩ := trodAll_cons r0
  obtain ⟨rfl, rfl, rfl⟩ := trodAll_nil r1
  obtain rfl : args = #[v0, v1] := Array.toList_inj.1 hargs
  obtain ⟨rfl, rfl⟩ := trodVars_none hV
  obtain ⟨a0, rfl, rfl, rfl, w0⟩ := open_string Tryz.underlying9 (hval 0 9 v0 rfl rfl) h0
  obtain ⟨a1, rfl, rfl, rfl, w1⟩ := open_int Tryz.underlying3 (hval 1 3 v1 rfl rfl) h1
  clear hA0
  simp only [List.append_nil] at hW'
  have hr0 : a0.size ≤ 140737488355328 := by
    have h := sized_string hsz (j := 0) (t := 9) (bytes := a0.data.toList) rfl rfl
    have hl : a0.data.toList.length = a0.size := Array.length_toList
    have hq := reachBytes_lt
    omega
  have hr1 := i64_bounds w1
  refine (tallyPowers_any a0 a1 W hr0 hr1.1 hr1.2).mono fun e W' ⟨hb, he⟩ => ?_
  subst he
  exact ⟨_, rfl, post_of_below (pa := []) (pv := []) hW' (fun _ _ _ => trodAll_cons_mk (shut_bool Tryz.underlying4 _) trodAll_mk0) (fun _ _ => trodAll_cons_mk (shut_string Tryz.underlying9 w0) (trodAll_cons_mk (shut_int Tryz.underlying3 w1) trodAll_mk0)) (fun _ _ => rfl) rfl
    hb (ok_one (by kernel_rfl) rfl (okWide_bool_mk Tryz.underlying4 _))⟩
end Go.Proofs.YtblbheilddafbaaGreatDoor.tallyPowers
