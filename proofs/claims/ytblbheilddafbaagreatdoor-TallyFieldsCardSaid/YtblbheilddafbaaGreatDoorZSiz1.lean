/-
  Texts of the proof, merged by program: Siz Siz1.
-/
import Derived.Test.YtblbheilddafbaaGreatDoorZ20
import Derived.Test.YtblbheilddafbaaGreatDoorZFac
set_option linter.unusedVariables false
set_option linter.unusedSimpArgs false
namespace Go.Proofs.YtblbheilddafbaaGreatDoor
open Go Go.RowKit
theorem Hb.below {W W' : World} {g : Nat} {x y : Value} (h : Hb W g x y) (hb : Below W.heap.size W W') : Hb W' g x y := (hb.block g (Array.getElem?_eq_some_iff.1 h).1).trans h
theorem Hb.lt {W : World} {g : Nat} {x y : Value} (h : Hb W g x y) : g < W.heap.size := (Array.getElem?_eq_some_iff.1 h).1
theorem p16 (m : Nat) : (16 : Int) ^ m = 2 ^ (4 * m) := by rw [Int.pow_mul]; rfl
theorem two_nat (n : Nat) : (((2 : Int) ^ n).natAbs : Int) = 2 ^ n := by
  have := Dg.pow_pos (show (0 : Int) < 2 by omega) n
  omega
theorem small_two {n : Nat} (h : n < 40000) : smallB ((2 : Int) ^ n).natAbs = true := by
  rw [two_nat]
  unfold smallB
  have h1 := Dg.pow_mono (show (0 : Int) < 2 by omega) (show n + 1 ≤ maxBits by unfold maxBits; omega)
  rw [Int.pow_succ] at h1
  have := Dg.pow_pos (show (0 : Int) < 2 by omega) n
  exact decide_eq_true (by omega)
theorem large_two {n : Nat} (h : 40000 ≤ n) : smallB ((2 : Int) ^ n).natAbs = false := by
  rw [two_nat]
  unfold smallB
  have h1 := Dg.pow_mono (show (0 : Int) < 2 by omega) (show maxBits ≤ n by unfold maxBits; omega)
  exact decide_eq_false (by omega)
theorem IntV.parts {L : Nat} {w : World} {s : Bool} {o : Option Addr} {k c : Nat} {z : Int} (h : IntV L w (.agg #[.bool s, .slice o k c]) z) : s = decide (z < 0) ∧ Num L w (.slice o k c) z.natAbs := by
  obtain ⟨sb, sv, e, h1, hn⟩ := h
  simp only [Value.agg.injEq, Array.mk.injEq, List.cons.injEq, Value.bool.injEq, and_true] at e
  obtain ⟨rfl, rfl⟩ := e
  exact ⟨h1, hn⟩
theorem small_pred {n : Nat} (h : n ≤ 40000) : smallB ((2 : Int) ^ n - 1).natAbs = true := by
  have h0 := Dg.pow_pos (show (0 : Int) < 2 by omega) n
  have h1 := Dg.pow_mono (show (0 : Int) < 2 by omega) (show n ≤ maxBits by unfold maxBits; omega)
  unfold smallB
  exact decide_eq_true (by omega)
set_option maxRecDepth 20000 in
set_option maxHeartbeats 4000000 in
theorem sizes_mm (i k U V : Int) (m n : Nat) (w : World) (h0 : -9223372036854775808 ≤ i) (h1 : i ≤ 9223372036854775807) (h2 : -9223372036854775808 ≤ k) (h3 : k ≤ 9223372036854775807)
    (hU : IntKind.u64.wrap i = U) (hV : IntKind.u64.wrap k = V) (hU0 : 0 ≤ U) (hU1 : U ≤ 18446744073709551615) (hV0 : 0 ≤ V) (hV1 : V ≤ 18446744073709551615) (hm : U % 10001 = m) (hn : V % 10001 = n) (hm1 : m ≤ 10000) (hn1 : n ≤ 10000) (hm0 : 10000 ≤ m) (hn0 : 10000 ≤ n) :
    Calls Tryz.prog 14 #[.int .i64 i, .int .i64 k] w (RetV w (.bool true)) := by
  have HM := Kept.mk hm
  have HN := Kept.mk hn
  clear hm hn
  have HW : Kept (Below w.heap.size w w) := ⟨Below.refl _ _⟩
  go_enter Tryz.func14, Tryz.ntmps14
  go_wp2_with fail
  refine (of_any 16 _ (by omega) (by omega)).mono ?_
  rintro e w1 ⟨hb1, v1, rfl, hJ1⟩
  obtain ⟨s1, u1, rfl, hs1, hn1⟩ := hJ1
  obtain ⟨o1, k1, c1, rfl⟩ := hn1.form
  have hI1 : IntV 625 w1 (.agg #[.bool s1, .slice o1 k1 c1]) 16 := IntV.mono ⟨_, _, rfl, hs1, hn1⟩ (by decide)
  replace HW := Kept.mk (HW.out.trans (Below.mono hb1 HW.out.size))
  clear hb1 hs1 hn1 
  have hal2 : Below w1.heap.size w1 (w1.alloc (.cells #[.bool s1, .slice o1 k1 c1] 30)) := (Below.refl _ _).alloc (Nat.le_refl _) _
  replace HW := Kept.mk (HW.out.trans (Below.mono hal2 HW.out.size))
  have HBt : Kept (Hb (w1.alloc (.cells #[.bool s1, .slice o1 k1 c1] 30)) w1.heap.size (.bool s1) (.slice o1 k1 c1)) := ⟨Hb.new _ _ _ _ rfl⟩
  have HIt : Kept (IntV 625 (w1.alloc (.cells #[.bool s1, .slice o1 k1 c1] 30)) (.agg #[.bool s1, .slice o1 k1 c1]) 16) := ⟨hI1.below hal2⟩
  clear hal2 hI1
  rw [HM.out, HN.out]
  clear HM HN hU hV hU0 hU1 hV0 hV1
  have HSM : Kept (smallB ((16 : Int) ^ m).natAbs = false) := ⟨by rw [p16]; exact large_two (by omega)⟩
  have hdm : decide ((40000 : Int) ≤ 4 * m) = true := decide_eq_true (by omega)
  obtain ⟨p4, q4, -, -⟩ := two_cells HBt.out
  go_wp2_with fail
  refine (pow_any HIt.out (by decide) hm1).mono ?_
  rintro e w3 hR
  obtain ⟨hb3, rfl⟩ := hR.no HSM.out
  replace HBt := Kept.mk (HBt.out.below hb3)
  replace HIt := Kept.mk (HIt.out.below hb3)
  replace HW := Kept.mk (HW.out.trans (Below.mono hb3 HW.out.size))
  clear hb3 hR p4 q4
  have hI3 : IntV 625 w3 (.agg #[.bool false, .slice none 0 0]) 0 := zeroInt w3
  have hal5 : Below w3.heap.size w3 (w3.alloc (.cells #[.bool false, .slice none 0 0] 30)) := (Below.refl _ _).alloc (Nat.le_refl _) _
  replace HBt := Kept.mk (HBt.out.below hal5)
  replace HIt := Kept.mk (HIt.out.below hal5)
  replace HW := Kept.mk (HW.out.trans (Below.mono hal5 HW.out.size))
  have HBa : Kept (Hb (w3.alloc (.cells #[.bool false, .slice none 0 0] 30)) w3.heap.size (.bool false) (.slice none 0 0)) := ⟨Hb.new _ _ _ _ rfl⟩
  have HIa : Kept (IntV 625 (w3.alloc (.cells #[.bool false, .slice none 0 0] 30)) (.agg #[.bool false, .slice none 0 0]) 0) := ⟨hI3.below hal5⟩
  clear hal5 hI3
  have HSN : Kept (smallB ((16 : Int) ^ n).natAbs = false) := ⟨by rw [p16]; exact large_two (by omega)⟩
  have hdn : decide ((40000 : Int) ≤ 4 * n) = true := decide_eq_true (by omega)
  obtain ⟨p7, q7, -, -⟩ := two_cells HBt.out
  go_wp2_with fail
  refine (pow_any HIt.out (by decide) hn1).mono ?_
  rintro e w6 hR
  obtain ⟨hb6, rfl⟩ := hR.no HSN.out
  replace HBt := Kept.mk (HBt.out.below hb6)
  replace HIt := Kept.mk (HIt.out.below hb6)
  replace HBa := Kept.mk (HBa.out.below hb6)
  replace HIa := Kept.mk (HIa.out.below hb6)
  replace HW := Kept.mk (HW.out.trans (Below.mono hb6 HW.out.size))
  clear hb6 hR p7 q7
  have hI6 : IntV 625 w6 (.agg #[.bool false, .slice none 0 0]) 0 := zeroInt w6
  have hal8 : Below w6.heap.size w6 (w6.alloc (.cells #[.bool false, .slice none 0 0] 30)) := (Below.refl _ _).alloc (Nat.le_refl _) _
  replace HBt := Kept.mk (HBt.out.below hal8)
  replace HIt := Kept.mk (HIt.out.below hal8)
  replace HBa := Kept.mk (HBa.out.below hal8)
  replace HIa := Kept.mk (HIa.out.below hal8)
  replace HW := Kept.mk (HW.out.trans (Below.mono hal8 HW.out.size))
  have HBb : Kept (Hb (w6.alloc (.cells #[.bool false, .slice none 0 0] 30)) w6.heap.size (.bool false) (.slice none 0 0)) := ⟨Hb.new _ _ _ _ rfl⟩
  have HIb : Kept (IntV 625 (w6.alloc (.cells #[.bool false, .slice none 0 0] 30)) (.agg #[.bool false, .slice none 0 0]) 0) := ⟨hI6.below hal8⟩
  clear hal8 hI6
  obtain ⟨p10, q10, -, -⟩ := two_cells HBa.out
  go_wp2_with fail
  refine (sign_any HIa.out).mono ?_
  rintro e w9 ⟨hb9, he9⟩
  subst he9
  replace HBt := Kept.mk (HBt.out.below hb9)
  replace HIt := Kept.mk (HIt.out.below hb9)
  replace HBa := Kept.mk (HBa.out.below hb9)
  replace HIa := Kept.mk (HIa.out.below hb9)
  replace HBb := Kept.mk (HBb.out.below hb9)
  replace HIb := Kept.mk (HIb.out.below hb9)
  replace HW := Kept.mk (HW.out.trans (Below.mono hb9 HW.out.size))
  clear hb9 p10 q10
  obtain ⟨p12, q12, -, -⟩ := two_cells HBb.out
  go_wp2_with fail
  refine (sign_any HIb.out).mono ?_
  rintro e w11 ⟨hb11, he11⟩
  subst he11
  replace HBt := Kept.mk (HBt.out.below hb11)
  replace HIt := Kept.mk (HIt.out.below hb11)
  replace HBa := Kept.mk (HBa.out.below hb11)
  replace HIa := Kept.mk (HIa.out.below hb11)
  replace HBb := Kept.mk (HBb.out.below hb11)
  replace HIb := Kept.mk (HIb.out.below hb11)
  replace HW := Kept.mk (HW.out.trans (Below.mono hb11 HW.out.size))
  clear hb11 p12 q12
  go_wp2_with fail
  refine (awake_any _).mono ?_
  rintro e w13 ⟨hb13, he13⟩
  subst he13
  replace HBt := Kept.mk (HBt.out.below hb13)
  replace HIt := Kept.mk (HIt.out.below hb13)
  replace HBa := Kept.mk (HBa.out.below hb13)
  replace HIa := Kept.mk (HIa.out.below hb13)
  replace HBb := Kept.mk (HBb.out.below hb13)
  replace HIb := Kept.mk (HIb.out.below hb13)
  replace HW := Kept.mk (HW.out.trans (Below.mono hb13 HW.out.size))
  clear hb13 
  go_wp2
  go_ret
  exact ⟨HW.out, rfl⟩
set_option maxRecDepth 20000 in
set_option maxHeartbeats 4000000 in
theorem sizes_mn (i k U V : Int) (m n : Nat) (w : World) (h0 : -9223372036854775808 ≤ i) (h1 : i ≤ 9223372036854775807) (h2 : -9223372036854775808 ≤ k) (h3 : k ≤ 9223372036854775807)
    (hU : IntKind.u64.wrap i = U) (hV : IntKind.u64.wrap k = V) (hU0 : 0 ≤ U) (hU1 : U ≤ 18446744073709551615) (hV0 : 0 ≤ V) (hV1 : V ≤ 18446744073709551615) (hm : U % 10001 = m) (hn : V % 10001 = n) (hm1 : m ≤ 10000) (hn1 : n ≤ 10000) (hm0 : 10000 ≤ m) (hn0 : ¬ 10000 ≤ n) :
    Calls Tryz.prog 14 #[.int .i64 i, .int .i64 k] w (RetV w (.bool true)) := by
  have HM := Kept.mk hm
  have HN := Kept.mk hn
  clear hm hn
  have HW : Kept (Below w.heap.size w w) := ⟨Below.refl _ _⟩
  go_enter Tryz.func14, Tryz.ntmps14
  go_wp2_with fail
  refine (of_any 16 _ (by omega) (by omega)).mono ?_
  rintro e w1 ⟨hb1, v1, rfl, hJ1⟩
  obtain ⟨s1, u1, rfl, hs1, hn1⟩ := hJ1
  obtain ⟨o1, k1, c1, rfl⟩ := hn1.form
  have hI1 : IntV 625 w1 (.agg #[.bool s1, .slice o1 k1 c1]) 16 := IntV.mono ⟨_, _, rfl, hs1, hn1⟩ (by decide)
  replace HW := Kept.mk (HW.out.trans (Below.mono hb1 HW.out.size))
  clear hb1 hs1 hn1 
  have hal2 : Below w1.heap.size w1 (w1.alloc (.cells #[.bool s1, .slice o1 k1 c1] 30)) := (Below.refl _ _).alloc (Nat.le_refl _) _
  replace HW := Kept.mk (HW.out.trans (Below.mono hal2 HW.out.size))
  have HBt : Kept (Hb (w1.alloc (.cells #[.bool s1, .slice o1 k1 c1] 30)) w1.heap.size (.bool s1) (.slice o1 k1 c1)) := ⟨Hb.new _ _ _ _ rfl⟩
  have HIt : Kept (IntV 625 (w1.alloc (.cells #[.bool s1, .slice o1 k1 c1] 30)) (.agg #[.bool s1, .slice o1 k1 c1]) 16) := ⟨hI1.below hal2⟩
  clear hal2 hI1
  rw [HM.out, HN.out]
  clear HM HN hU hV hU0 hU1 hV0 hV1
  have HSM : Kept (smallB ((16 : Int) ^ m).natAbs = false) := ⟨by rw [p16]; exact large_two (by omega)⟩
  have hdm : decide ((40000 : Int) ≤ 4 * m) = true := decide_eq_true (by omega)
  obtain ⟨p4, q4, -, -⟩ := two_cells HBt.out
  go_wp2_with fail
  refine (pow_any HIt.out (by decide) hm1).mono ?_
  rintro e w3 hR
  obtain ⟨hb3, rfl⟩ := hR.no HSM.out
  replace HBt := Kept.mk (HBt.out.below hb3)
  replace HIt := Kept.mk (HIt.out.below hb3)
  replace HW := Kept.mk (HW.out.trans (Below.mono hb3 HW.out.size))
  clear hb3 hR p4 q4
  have hI3 : IntV 625 w3 (.agg #[.bool false, .slice none 0 0]) 0 := zeroInt w3
  have hal5 : Below w3.heap.size w3 (w3.alloc (.cells #[.bool false, .slice none 0 0] 30)) := (Below.refl _ _).alloc (Nat.le_refl _) _
  replace HBt := Kept.mk (HBt.out.below hal5)
  replace HIt := Kept.mk (HIt.out.below hal5)
  replace HW := Kept.mk (HW.out.trans (Below.mono hal5 HW.out.size))
  have HBa : Kept (Hb (w3.alloc (.cells #[.bool false, .slice none 0 0] 30)) w3.heap.size (.bool false) (.slice none 0 0)) := ⟨Hb.new _ _ _ _ rfl⟩
  have HIa : Kept (IntV 625 (w3.alloc (.cells #[.bool false, .slice none 0 0] 30)) (.agg #[.bool false, .slice none 0 0]) 0) := ⟨hI3.below hal5⟩
  clear hal5 hI3
  have HSN : Kept (smallB ((16 : Int) ^ n).natAbs = true) := ⟨by rw [p16]; exact small_two (by omega)⟩
  have hdn : decide ((40000 : Int) ≤ 4 * n) = false := decide_eq_false (by omega)
  obtain ⟨p7, q7, -, -⟩ := two_cells HBt.out
  go_wp2_with fail
  refine (pow_any HIt.out (by decide) hn1).mono ?_
  rintro e w6 hR
  obtain ⟨hb6, s6, o6, k6, c6, rfl, hI6⟩ := hR.yes HSN.out
  replace HBt := Kept.mk (HBt.out.below hb6)
  replace HIt := Kept.mk (HIt.out.below hb6)
  replace HBa := Kept.mk (HBa.out.below hb6)
  replace HIa := Kept.mk (HIa.out.below hb6)
  replace HW := Kept.mk (HW.out.trans (Below.mono hb6 HW.out.size))
  clear hb6 p7 q7 hR
  have hal8 : Below w6.heap.size w6 (w6.alloc (.cells #[.bool s6, .slice o6 k6 c6] 30)) := (Below.refl _ _).alloc (Nat.le_refl _) _
  replace HBt := Kept.mk (HBt.out.below hal8)
  replace HIt := Kept.mk (HIt.out.below hal8)
  replace HBa := Kept.mk (HBa.out.below hal8)
  replace HIa := Kept.mk (HIa.out.below hal8)
  replace HW := Kept.mk (HW.out.trans (Below.mono hal8 HW.out.size))
  have HBb : Kept (Hb (w6.alloc (.cells #[.bool s6, .slice o6 k6 c6] 30)) w6.heap.size (.bool s6) (.slice o6 k6 c6)) := ⟨Hb.new _ _ _ _ rfl⟩
  have HIb : Kept (IntV 625 (w6.alloc (.cells #[.bool s6, .slice o6 k6 c6] 30)) (.agg #[.bool s6, .slice o6 k6 c6]) (16 ^ n)) := ⟨hI6.below hal8⟩
  clear hal8 hI6
  obtain ⟨p10, q10, -, -⟩ := two_cells HBa.out
  go_wp2_with fail
  refine (sign_any HIa.out).mono ?_
  rintro e w9 ⟨hb9, he9⟩
  subst he9
  replace HBt := Kept.mk (HBt.out.below hb9)
  replace HIt := Kept.mk (HIt.out.below hb9)
  replace HBa := Kept.mk (HBa.out.below hb9)
  replace HIa := Kept.mk (HIa.out.below hb9)
  replace HBb := Kept.mk (HBb.out.below hb9)
  replace HIb := Kept.mk (HIb.out.below hb9)
  replace HW := Kept.mk (HW.out.trans (Below.mono hb9 HW.out.size))
  clear hb9 p10 q10
  go_wp2_with fail
  refine (awake_any _).mono ?_
  rintro e w11 ⟨hb11, he11⟩
  subst he11
  replace HBt := Kept.mk (HBt.out.below hb11)
  replace HIt := Kept.mk (HIt.out.below hb11)
  replace HBa := Kept.mk (HBa.out.below hb11)
  replace HIa := Kept.mk (HIa.out.below hb11)
  replace HBb := Kept.mk (HBb.out.below hb11)
  replace HIb := Kept.mk (HIb.out.below hb11)
  replace HW := Kept.mk (HW.out.trans (Below.mono hb11 HW.out.size))
  clear hb11 
  go_wp2
  go_ret
  exact ⟨HW.out, rfl⟩
set_option maxRecDepth 20000 in
set_option maxHeartbeats 4000000 in
theorem sizes_nm (i k U V : Int) (m n : Nat) (w : World) (h0 : -9223372036854775808 ≤ i) (h1 : i ≤ 9223372036854775807) (h2 : -9223372036854775808 ≤ k) (h3 : k ≤ 9223372036854775807)
    (hU : IntKind.u64.wrap i = U) (hV : IntKind.u64.wrap k = V) (hU0 : 0 ≤ U) (hU1 : U ≤ 18446744073709551615) (hV0 : 0 ≤ V) (hV1 : V ≤ 18446744073709551615) (hm : U % 10001 = m) (hn : V % 10001 = n) (hm1 : m ≤ 10000) (hn1 : n ≤ 10000) (hm0 : ¬ 10000 ≤ m) (hn0 : 10000 ≤ n) :
    Calls Tryz.prog 14 #[.int .i64 i, .int .i64 k] w (RetV w (.bool true)) := by
  have HM := Kept.mk hm
  have HN := Kept.mk hn
  clear hm hn
  have HW : Kept (Below w.heap.size w w) := ⟨Below.refl _ _⟩
  go_enter Tryz.func14, Tryz.ntmps14
  go_wp2_with fail
  refine (of_any 16 _ (by omega) (by omega)).mono ?_
  rintro e w1 ⟨hb1, v1, rfl, hJ1⟩
  obtain ⟨s1, u1, rfl, hs1, hn1⟩ := hJ1
  obtain ⟨o1, k1, c1, rfl⟩ := hn1.form
  have hI1 : IntV 625 w1 (.agg #[.bool s1, .slice o1 k1 c1]) 16 := IntV.mono ⟨_, _, rfl, hs1, hn1⟩ (by decide)
  replace HW := Kept.mk (HW.out.trans (Below.mono hb1 HW.out.size))
  clear hb1 hs1 hn1 
  have hal2 : Below w1.heap.size w1 (w1.alloc (.cells #[.bool s1, .slice o1 k1 c1] 30)) := (Below.refl _ _).alloc (Nat.le_refl _) _
  replace HW := Kept.mk (HW.out.trans (Below.mono hal2 HW.out.size))
  have HBt : Kept (Hb (w1.alloc (.cells #[.bool s1, .slice o1 k1 c1] 30)) w1.heap.size (.bool s1) (.slice o1 k1 c1)) := ⟨Hb.new _ _ _ _ rfl⟩
  have HIt : Kept (IntV 625 (w1.alloc (.cells #[.bool s1, .slice o1 k1 c1] 30)) (.agg #[.bool s1, .slice o1 k1 c1]) 16) := ⟨hI1.below hal2⟩
  clear hal2 hI1
  rw [HM.out, HN.out]
  clear HM HN hU hV hU0 hU1 hV0 hV1
  have HSM : Kept (smallB ((16 : Int) ^ m).natAbs = true) := ⟨by rw [p16]; exact small_two (by omega)⟩
  have hdm : decide ((40000 : Int) ≤ 4 * m) = false := decide_eq_false (by omega)
  obtain ⟨p4, q4, -, -⟩ := two_cells HBt.out
  go_wp2_with fail
  refine (pow_any HIt.out (by decide) hm1).mono ?_
  rintro e w3 hR
  obtain ⟨hb3, s3, o3, k3, c3, rfl, hI3⟩ := hR.yes HSM.out
  replace HBt := Kept.mk (HBt.out.below hb3)
  replace HIt := Kept.mk (HIt.out.below hb3)
  replace HW := Kept.mk (HW.out.trans (Below.mono hb3 HW.out.size))
  clear hb3 p4 q4 hR
  have hal5 : Below w3.heap.size w3 (w3.alloc (.cells #[.bool s3, .slice o3 k3 c3] 30)) := (Below.refl _ _).alloc (Nat.le_refl _) _
  replace HBt := Kept.mk (HBt.out.below hal5)
  replace HIt := Kept.mk (HIt.out.below hal5)
  replace HW := Kept.mk (HW.out.trans (Below.mono hal5 HW.out.size))
  have HBa : Kept (Hb (w3.alloc (.cells #[.bool s3, .slice o3 k3 c3] 30)) w3.heap.size (.bool s3) (.slice o3 k3 c3)) := ⟨Hb.new _ _ _ _ rfl⟩
  have HIa : Kept (IntV 625 (w3.alloc (.cells #[.bool s3, .slice o3 k3 c3] 30)) (.agg #[.bool s3, .slice o3 k3 c3]) (16 ^ m)) := ⟨hI3.below hal5⟩
  clear hal5 hI3
  have HSN : Kept (smallB ((16 : Int) ^ n).natAbs = false) := ⟨by rw [p16]; exact large_two (by omega)⟩
  have hdn : decide ((40000 : Int) ≤ 4 * n) = true := decide_eq_true (by omega)
  obtain ⟨p7, q7, -, -⟩ := two_cells HBt.out
  go_wp2_with fail
  refine (pow_any HIt.out (by decide) hn1).mono ?_
  rintro e w6 hR
  obtain ⟨hb6, rfl⟩ := hR.no HSN.out
  replace HBt := Kept.mk (HBt.out.below hb6)
  replace HIt := Kept.mk (HIt.out.below hb6)
  replace HBa := Kept.mk (HBa.out.below hb6)
  replace HIa := Kept.mk (HIa.out.below hb6)
  replace HW := Kept.mk (HW.out.trans (Below.mono hb6 HW.out.size))
  clear hb6 hR p7 q7
  have hI6 : IntV 625 w6 (.agg #[.bool false, .slice none 0 0]) 0 := zeroInt w6
  have hal8 : Below w6.heap.size w6 (w6.alloc (.cells #[.bool false, .slice none 0 0] 30)) := (Below.refl _ _).alloc (Nat.le_refl _) _
  replace HBt := Kept.mk (HBt.out.below hal8)
  replace HIt := Kept.mk (HIt.out.below hal8)
  replace HBa := Kept.mk (HBa.out.below hal8)
  replace HIa := Kept.mk (HIa.out.below hal8)
  replace HW := Kept.mk (HW.out.trans (Below.mono hal8 HW.out.size))
  have HBb : Kept (Hb (w6.alloc (.cells #[.bool false, .slice none 0 0] 30)) w6.heap.size (.bool false) (.slice none 0 0)) := ⟨Hb.new _ _ _ _ rfl⟩
  have HIb : Kept (IntV 625 (w6.alloc (.cells #[.bool false, .slice none 0 0] 30)) (.agg #[.bool false, .slice none 0 0]) 0) := ⟨hI6.below hal8⟩
  clear hal8 hI6
  obtain ⟨p10, q10, -, -⟩ := two_cells HBb.out
  go_wp2_with fail
  refine (sign_any HIb.out).mono ?_
  rintro e w9 ⟨hb9, he9⟩
  subst he9
  replace HBt := Kept.mk (HBt.out.below hb9)
  replace HIt := Kept.mk (HIt.out.below hb9)
  replace HBa := Kept.mk (HBa.out.below hb9)
  replace HIa := Kept.mk (HIa.out.below hb9)
  replace HBb := Kept.mk (HBb.out.below hb9)
  replace HIb := Kept.mk (HIb.out.below hb9)
  replace HW := Kept.mk (HW.out.trans (Below.mono hb9 HW.out.size))
  clear hb9 p10 q10
  go_wp2_with fail
  refine (awake_any _).mono ?_
  rintro e w11 ⟨hb11, he11⟩
  subst he11
  replace HBt := Kept.mk (HBt.out.below hb11)
  replace HIt := Kept.mk (HIt.out.below hb11)
  replace HBa := Kept.mk (HBa.out.below hb11)
  replace HIa := Kept.mk (HIa.out.below hb11)
  replace HBb := Kept.mk (HBb.out.below hb11)
  replace HIb := Kept.mk (HIb.out.below hb11)
  replace HW := Kept.mk (HW.out.trans (Below.mono hb11 HW.out.size))
  clear hb11 
  go_wp2
  go_ret
  exact ⟨HW.out, rfl⟩
end Go.Proofs.YtblbheilddafbaaGreatDoor

set_option linter.unusedVariables false
set_option linter.unusedSimpArgs false
namespace Go.Proofs.YtblbheilddafbaaGreatDoor
open Go Go.RowKit
set_option maxRecDepth 20000 in
set_option maxHeartbeats 4000000 in
theorem sizes_y1 (i k U V : Int) (m n : Nat) (w : World) (h0 : -9223372036854775808 ≤ i) (h1 : i ≤ 9223372036854775807) (h2 : -9223372036854775808 ≤ k) (h3 : k ≤ 9223372036854775807)
    (hU : IntKind.u64.wrap i = U) (hV : IntKind.u64.wrap k = V) (hU0 : 0 ≤ U) (hU1 : U ≤ 18446744073709551615) (hV0 : 0 ≤ V) (hV1 : V ≤ 18446744073709551615) (hm : U % 10001 = m) (hn : V % 10001 = n) (hm1 : m ≤ 10000) (hn1 : n ≤ 10000) (hm0 : ¬ 10000 ≤ m) (hn0 : ¬ 10000 ≤ n) (hmn : m + n < 10000) (hm9 : 9999 ≤ m) :
    Calls Tryz.prog 14 #[.int .i64 i, .int .i64 k] w (RetV w (.bool true)) := by
  have HM := Kept.mk hm
  have HN := Kept.mk hn
  clear hm hn
  have HW : Kept (Below w.heap.size w w) := ⟨Below.refl _ _⟩
  go_enter Tryz.func14, Tryz.ntmps14
  go_wp2_with fail
  refine (of_any 16 _ (by omega) (by omega)).mono ?_
  rintro e w1 ⟨hb1, v1, rfl, hJ1⟩
  obtain ⟨s1, u1, rfl, hs1, hn1⟩ := hJ1
  obtain ⟨o1, k1, c1, rfl⟩ := hn1.form
  have hI1 : IntV 625 w1 (.agg #[.bool s1, .slice o1 k1 c1]) 16 := IntV.mono ⟨_, _, rfl, hs1, hn1⟩ (by decide)
  replace HW := Kept.mk (HW.out.trans (Below.mono hb1 HW.out.size))
  clear hb1 hs1 hn1 
  have hal2 : Below w1.heap.size w1 (w1.alloc (.cells #[.bool s1, .slice o1 k1 c1] 30)) := (Below.refl _ _).alloc (Nat.le_refl _) _
  replace HW := Kept.mk (HW.out.trans (Below.mono hal2 HW.out.size))
  have HBt : Kept (Hb (w1.alloc (.cells #[.bool s1, .slice o1 k1 c1] 30)) w1.heap.size (.bool s1) (.slice o1 k1 c1)) := ⟨Hb.new _ _ _ _ rfl⟩
  have HIt : Kept (IntV 625 (w1.alloc (.cells #[.bool s1, .slice o1 k1 c1] 30)) (.agg #[.bool s1, .slice o1 k1 c1]) 16) := ⟨hI1.below hal2⟩
  clear hal2 hI1
  rw [HM.out, HN.out]
  clear HM HN hU hV hU0 hU1 hV0 hV1
  have HSM : Kept (smallB ((16 : Int) ^ m).natAbs = true) := ⟨by rw [p16]; exact small_two (by omega)⟩
  have hdm : decide ((40000 : Int) ≤ 4 * m) = false := decide_eq_false (by omega)
  obtain ⟨p4, q4, -, -⟩ := two_cells HBt.out
  go_wp2_with fail
  refine (pow_any HIt.out (by decide) hm1).mono ?_
  rintro e w3 hR
  obtain ⟨hb3, s3, o3, k3, c3, rfl, hI3⟩ := hR.yes HSM.out
  replace HBt := Kept.mk (HBt.out.below hb3)
  replace HIt := Kept.mk (HIt.out.below hb3)
  replace HW := Kept.mk (HW.out.trans (Below.mono hb3 HW.out.size))
  clear hb3 p4 q4 hR
  have hal5 : Below w3.heap.size w3 (w3.alloc (.cells #[.bool s3, .slice o3 k3 c3] 30)) := (Below.refl _ _).alloc (Nat.le_refl _) _
  replace HBt := Kept.mk (HBt.out.below hal5)
  replace HIt := Kept.mk (HIt.out.below hal5)
  replace HW := Kept.mk (HW.out.trans (Below.mono hal5 HW.out.size))
  have HBa : Kept (Hb (w3.alloc (.cells #[.bool s3, .slice o3 k3 c3] 30)) w3.heap.size (.bool s3) (.slice o3 k3 c3)) := ⟨Hb.new _ _ _ _ rfl⟩
  have HIa : Kept (IntV 625 (w3.alloc (.cells #[.bool s3, .slice o3 k3 c3] 30)) (.agg #[.bool s3, .slice o3 k3 c3]) (16 ^ m)) := ⟨hI3.below hal5⟩
  clear hal5 hI3
  have HSN : Kept (smallB ((16 : Int) ^ n).natAbs = true) := ⟨by rw [p16]; exact small_two (by omega)⟩
  have hdn : decide ((40000 : Int) ≤ 4 * n) = false := decide_eq_false (by omega)
  obtain ⟨p7, q7, -, -⟩ := two_cells HBt.out
  go_wp2_with fail
  refine (pow_any HIt.out (by decide) hn1).mono ?_
  rintro e w6 hR
  obtain ⟨hb6, s6, o6, k6, c6, rfl, hI6⟩ := hR.yes HSN.out
  replace HBt := Kept.mk (HBt.out.below hb6)
  replace HIt := Kept.mk (HIt.out.below hb6)
  replace HBa := Kept.mk (HBa.out.below hb6)
  replace HIa := Kept.mk (HIa.out.below hb6)
  replace HW := Kept.mk (HW.out.trans (Below.mono hb6 HW.out.size))
  clear hb6 p7 q7 hR
  have hal8 : Below w6.heap.size w6 (w6.alloc (.cells #[.bool s6, .slice o6 k6 c6] 30)) := (Below.refl _ _).alloc (Nat.le_refl _) _
  replace HBt := Kept.mk (HBt.out.below hal8)
  replace HIt := Kept.mk (HIt.out.below hal8)
  replace HBa := Kept.mk (HBa.out.below hal8)
  replace HIa := Kept.mk (HIa.out.below hal8)
  replace HW := Kept.mk (HW.out.trans (Below.mono hal8 HW.out.size))
  have HBb : Kept (Hb (w6.alloc (.cells #[.bool s6, .slice o6 k6 c6] 30)) w6.heap.size (.bool s6) (.slice o6 k6 c6)) := ⟨Hb.new _ _ _ _ rfl⟩
  have HIb : Kept (IntV 625 (w6.alloc (.cells #[.bool s6, .slice o6 k6 c6] 30)) (.agg #[.bool s6, .slice o6 k6 c6]) (16 ^ n)) := ⟨hI6.below hal8⟩
  clear hal8 hI6
  have HS8 : Kept (smallB ((16 : Int) ^ m * 8).natAbs = true) := ⟨by rw [show (8 : Int) = 2 ^ 3 from rfl, p16, ← Int.pow_add]; exact small_two (by omega)⟩
  have hdmn : decide ((40000 : Int) ≤ 4 * m + 4 * n) = false := decide_eq_false (by omega)
  have HSC : Kept (smallB ((16 : Int) ^ m * 16 ^ n).natAbs = true) := ⟨by rw [← Int.pow_add, p16]; exact small_two (by omega)⟩
  obtain ⟨p10, q10, -, -⟩ := two_cells HBa.out
  obtain ⟨p11, q11, -, -⟩ := two_cells HBb.out
  go_wp2_with fail
  refine (mul_any HIa.out HIb.out (by decide) (by decide)).mono ?_
  rintro e w9 hR
  obtain ⟨hb9, s9, o9, k9, c9, rfl, hI9⟩ := hR.yes HSC.out
  replace HBt := Kept.mk (HBt.out.below hb9)
  replace HIt := Kept.mk (HIt.out.below hb9)
  replace HBa := Kept.mk (HBa.out.below hb9)
  replace HIa := Kept.mk (HIa.out.below hb9)
  replace HBb := Kept.mk (HBb.out.below hb9)
  replace HIb := Kept.mk (HIb.out.below hb9)
  replace HW := Kept.mk (HW.out.trans (Below.mono hb9 HW.out.size))
  clear hb9 p10 q10 p11 q11 hR
  have hal12 : Below w9.heap.size w9 (w9.alloc (.cells #[.bool s9, .slice o9 k9 c9] 30)) := (Below.refl _ _).alloc (Nat.le_refl _) _
  replace HBt := Kept.mk (HBt.out.below hal12)
  replace HIt := Kept.mk (HIt.out.below hal12)
  replace HBa := Kept.mk (HBa.out.below hal12)
  replace HIa := Kept.mk (HIa.out.below hal12)
  replace HBb := Kept.mk (HBb.out.below hal12)
  replace HIb := Kept.mk (HIb.out.below hal12)
  replace HW := Kept.mk (HW.out.trans (Below.mono hal12 HW.out.size))
  have HBc : Kept (Hb (w9.alloc (.cells #[.bool s9, .slice o9 k9 c9] 30)) w9.heap.size (.bool s9) (.slice o9 k9 c9)) := ⟨Hb.new _ _ _ _ rfl⟩
  have HIc : Kept (IntV 625 (w9.alloc (.cells #[.bool s9, .slice o9 k9 c9] 30)) (.agg #[.bool s9, .slice o9 k9 c9]) (16 ^ m * 16 ^ n)) := ⟨hI9.below hal12⟩
  clear hal12 hI9
  have HSC2 : Kept (smallB ((16 : Int) ^ (m + n)).natAbs = true) := ⟨by rw [p16]; exact small_two (by omega)⟩
  obtain ⟨p14, q14, -, -⟩ := two_cells HBt.out
  go_wp2_with fail
  refine (pow_any (n := m + n) HIt.out (by decide) (by omega)).mono ?_
  rintro e w13 hR
  obtain ⟨hb13, s13, o13, k13, c13, rfl, hI13⟩ := hR.yes HSC2.out
  replace HBt := Kept.mk (HBt.out.below hb13)
  replace HIt := Kept.mk (HIt.out.below hb13)
  replace HBa := Kept.mk (HBa.out.below hb13)
  replace HIa := Kept.mk (HIa.out.below hb13)
  replace HBb := Kept.mk (HBb.out.below hb13)
  replace HIb := Kept.mk (HIb.out.below hb13)
  replace HBc := Kept.mk (HBc.out.below hb13)
  replace HIc := Kept.mk (HIc.out.below hb13)
  replace HW := Kept.mk (HW.out.trans (Below.mono hb13 HW.out.size))
  clear hb13 p14 q14 hR
  have hal15 : Below w13.heap.size w13 (w13.alloc (.cells #[.bool s13, .slice o13 k13 c13] 30)) := (Below.refl _ _).alloc (Nat.le_refl _) _
  replace HBt := Kept.mk (HBt.out.below hal15)
  replace HIt := Kept.mk (HIt.out.below hal15)
  replace HBa := Kept.mk (HBa.out.below hal15)
  replace HIa := Kept.mk (HIa.out.below hal15)
  replace HBb := Kept.mk (HBb.out.below hal15)
  replace HIb := Kept.mk (HIb.out.below hal15)
  replace HBc := Kept.mk (HBc.out.below hal15)
  replace HIc := Kept.mk (HIc.out.below hal15)
  replace HW := Kept.mk (HW.out.trans (Below.mono hal15 HW.out.size))
  have HBwant : Kept (Hb (w13.alloc (.cells #[.bool s13, .slice o13 k13 c13] 30)) w13.heap.size (.bool s13) (.slice o13 k13 c13)) := ⟨Hb.new _ _ _ _ rfl⟩
  have HIwant : Kept (IntV 625 (w13.alloc (.cells #[.bool s13, .slice o13 k13 c13] 30)) (.agg #[.bool s13, .slice o13 k13 c13]) (16 ^ (m + n))) := ⟨hI13.below hal15⟩
  clear hal15 hI13
  have HCM : Kept (Dg.sg ((16 : Int) ^ m * 16 ^ n) (16 ^ (m + n)) = 0) := ⟨by rw [← Int.pow_add]; exact Dg.sg_eq _⟩
  obtain ⟨p17, q17, -, -⟩ := two_cells HBc.out
  obtain ⟨p18, q18, -, -⟩ := two_cells HBwant.out
  go_wp2_with fail
  refine (cmp_any HIc.out HIwant.out).mono ?_
  rintro e w16 ⟨hb16, he16⟩
  rw [HCM.out] at he16
  subst he16
  replace HBt := Kept.mk (HBt.out.below hb16)
  replace HIt := Kept.mk (HIt.out.below hb16)
  replace HBa := Kept.mk (HBa.out.below hb16)
  replace HIa := Kept.mk (HIa.out.below hb16)
  replace HBb := Kept.mk (HBb.out.below hb16)
  replace HIb := Kept.mk (HIb.out.below hb16)
  replace HBc := Kept.mk (HBc.out.below hb16)
  replace HIc := Kept.mk (HIc.out.below hb16)
  replace HBwant := Kept.mk (HBwant.out.below hb16)
  replace HIwant := Kept.mk (HIwant.out.below hb16)
  replace HW := Kept.mk (HW.out.trans (Below.mono hb16 HW.out.size))
  clear hb16 p17 q17 p18 q18
  clear HIb HBb
  clear HIc HBc
  clear HIwant HBwant
  clear HIt HBt
  have HUV : Kept ((16 : Int) ^ m * 8 = 2 ^ (4 * m + 3)) := ⟨by rw [show (8 : Int) = 2 ^ 3 from rfl, p16, ← Int.pow_add]⟩
  have HUU : Kept ((16 : Int) ^ m * 8 + 16 ^ m * 8 = 2 ^ (4 * m + 4)) := ⟨by rw [HUV.out, Int.pow_succ 2 (4 * m + 3)]; omega⟩
  have HSX : Kept (smallB ((16 : Int) ^ m * 8 - 1).natAbs = true) := ⟨by rw [HUV.out]; exact small_pred (by omega)⟩
  have HXY : Kept ((16 : Int) ^ m * 8 - 1 + 16 ^ m * 8 = 2 ^ (4 * m + 4) - 1) := ⟨by rw [← HUU.out]; omega⟩
  have HSY : Kept (smallB ((16 : Int) ^ m * 8 - 1 + 16 ^ m * 8).natAbs = true) := ⟨by rw [HXY.out]; exact small_pred (by omega)⟩
  have hop : ∀ W v, IntV 625 W (.agg #[.bool s3, .slice o3 k3 c3]) (16 ^ m) → IntV 1 W v 8 → Calls Tryz.prog 40 #[(.agg #[.bool s3, .slice o3 k3 c3]), v] W (RetOk 625 W (16 ^ m * 8)) := fun W v h h' => (mul_any h h' (by decide) (by decide)).mono fun e w' hR => hR.yes HS8.out
  have HOP := Kept.mk hop
  clear hop
  go_upto_region 16 with fail
  have hgx : w3.heap.size < w16.heap.size := HBa.out.lt
  have hne1 : ¬ w3.heap.size = w16.heap.size := by omega
  have hne2 : ¬ w16.heap.size = w3.heap.size := by omega
  go_cut [16, 17] (fun p e wx => ∃ g : Nat, p = .pointer (some ⟨g, 0, none⟩) ∧ e = .int .i64 0 ∧ BoxI 625 wx g (16 ^ m * 8) ∧ Below w16.heap.size w16 wx)
  case first =>
    obtain ⟨j0, j1, -, -⟩ := two_cells HBa.out
    go_region_held3 (fun w' => w'.cell? ⟨w3.heap.size, 0, none⟩ = some (.bool s3) ∧ w'.cell? ⟨w3.heap.size, 1, none⟩ = some (.slice o3 k3 c3))
      (first | exact ⟨l0, l1⟩ | exact ⟨k0', k1'⟩ | exact ⟨j0, j1⟩ | (refine ⟨?_, ?_⟩ <;> simp [go_sem, l0, l1, n1, n2, m1, m2, hne1, hne2]; done) | (refine ⟨?_, ?_⟩ <;> simp [go_sem, k0', k1', n1, n2, hne1, hne2]; done) | (refine ⟨?_, ?_⟩ <;> simp [go_sem, j0, j1, hne1, hne2]; done) | go_keep)
      ((first
        | (go_at_call 30; refine (of_any 8 _ (by decide) (by decide)).mono ?_; rintro e wA ⟨hbA, vA, rfl, hIA⟩; have hyA : Bxs w16 [] wA := Bxs.below (by repeat (first | (with_reducible exact Bxs.start w16) | (with_reducible refine Bxs.drew ?_) | (with_reducible refine Bxs.more ?_ _))) hbA; obtain ⟨k0', k1', _⟩ := two_cells (HBa.out.below hyA.1); have hlA := hyA.1.size; have n1 : ¬ w3.heap.size = wA.heap.size := (by omega); have n2 : ¬ wA.heap.size = w3.heap.size := (by omega); (try ((have za : Zb wA (w16.heap.size) := ?hzz); (case hzz => ((refine Zb.below ?_ hbA); (repeat (first | (with_reducible assumption) | ((with_reducible refine Zb.new _ _ ?_); simp; done) | (with_reducible refine Zb.drw ?_) | (with_reducible refine Zb.more ?_ _))); done)); obtain ⟨za0, za1, za2, za3⟩ := za.cells; have zal := za.lt)); clear hbA)
        | (go_at_call 40; (with_reducible refine (HOP.out _ _ ?h1 ?h2).mono ?_); (case h1 => exact HIa.out.below (show Bxs w16 [] _ from (by repeat (first | (with_reducible exact hyA) | (with_reducible refine Bxs.drew ?_) | (with_reducible refine Bxs.more ?_ _)))).1); (case h2 => repeat (first | (with_reducible exact hIA) | (with_reducible refine IntV.more ?_ _))); rintro e wB ⟨hbB, sB, oB, kB, cB, rfl, hIB⟩; have hyB : Bxs w16 [] wB := Bxs.below (by repeat (first | (with_reducible exact hyA) | (with_reducible refine Bxs.drew ?_) | (with_reducible refine Bxs.more ?_ _))) hbB; obtain ⟨l0, l1, _⟩ := two_cells (HBa.out.below hyB.1); have hlB := hyB.1.size; have hlAB : wA.heap.size ≤ wB.heap.size := (by have := hbB.size; (try simp at this); omega); obtain ⟨hsB, hnB⟩ := hIB.parts; have HSB := Kept.mk hsB; clear hsB hIB; have m1 : ¬ w3.heap.size = wB.heap.size := (by omega); have m2 : ¬ wB.heap.size = w3.heap.size := (by omega); (try ((have zc : Zb wB (w16.heap.size) := ?hzz); (case hzz => ((refine Zb.below ?_ hbB); (repeat (first | (with_reducible assumption) | ((with_reducible refine Zb.new _ _ ?_); simp; done) | (with_reducible refine Zb.drw ?_) | (with_reducible refine Zb.more ?_ _))); done)); obtain ⟨zc0, zc1, zc2, zc3⟩ := zc.cells; have zcl := zc.lt)); (try ((have ze : Zb wB (wA.heap.size) := ?hzz); (case hzz => ((refine Zb.below ?_ hbB); (repeat (first | (with_reducible assumption) | ((with_reducible refine Zb.new _ _ ?_); simp; done) | (with_reducible refine Zb.drw ?_) | (with_reducible refine Zb.more ?_ _))); done)); obtain ⟨ze0, ze1, ze2, ze3⟩ := ze.cells; have zel := ze.lt)); clear hbB k0' k1'; (try clear za0 za1 za2 za3))))
    all_goals
      (go_wp2_with fail
       go_meet
       have hbwB : Below w16.heap.size w16 wB := hyB.1
       refine ⟨_, rfl, rfl, ⟨sB, oB, kB, cB, ?_, ⟨_, _, rfl, HSB.out, Okw.num (w0 := w16) ?_ hnB⟩⟩, Okw.bel (w3 := wB) ?_⟩
       all_goals (try (repeat (any_goals (first | (with_reducible exact Okw.start hbwB) | (with_reducible refine Okw.alloc ?_ _) | (with_reducible refine Okw.set ?_ ?_ ?_ _ _)))))
       all_goals (first | omega | (repeat (first | ((with_reducible refine Zb.hb ?_); (with_reducible assumption)) | ((with_reducible refine Hb.new _ _ _ _ ?_); simp; done) | (with_reducible refine Hb.two ?_ _ _) | ((with_reducible refine Hb.other ?_ ?hne _ _); (case hne => omega)) | (with_reducible refine Hb.more ?_ _)))))
  case rest =>
    obtain ⟨g19, rfl, rfl, ⟨s19, o19, k19, c19, hg19, hI19⟩, hbw⟩ := hcut
    replace HBa := Kept.mk (HBa.out.below hbw)
    replace HIa := Kept.mk (HIa.out.below hbw)
    replace HW := Kept.mk (HW.out.trans (Below.mono hbw HW.out.size))
    have HBu := Kept.mk hg19
    have HIu := Kept.mk hI19
    clear hbw hg19 hI19 HOP hgx hne1 hne2
    clear HIa HBa
    have hdg : decide ((40000 : Int) < 4 * m + 4) = false := decide_eq_false (by omega)
    have hdv : decide ((40000 : Int) ≤ 4 * m + 4) = true := decide_eq_true (by omega)
    have HNV : Kept (smallB ((16 : Int) ^ m * 8 + 16 ^ m * 8).natAbs = false) := ⟨by rw [HUU.out]; exact large_two (by omega)⟩
    obtain ⟨p21, q21, -, -⟩ := two_cells HBu.out
    go_wp2_with fail
    refine (add_any HIu.out HIu.out (by decide) (by decide)).mono ?_
    rintro e w20 hR
    obtain ⟨hb20, rfl⟩ := hR.no HNV.out
    replace HBu := Kept.mk (HBu.out.below hb20)
    replace HIu := Kept.mk (HIu.out.below hb20)
    replace HW := Kept.mk (HW.out.trans (Below.mono hb20 HW.out.size))
    clear hb20 hR p21 q21
    have hI20 : IntV 625 w20 (.agg #[.bool false, .slice none 0 0]) 0 := zeroInt w20
    have hal22 : Below w20.heap.size w20 (w20.alloc (.cells #[.bool false, .slice none 0 0] 30)) := (Below.refl _ _).alloc (Nat.le_refl _) _
    replace HBu := Kept.mk (HBu.out.below hal22)
    replace HIu := Kept.mk (HIu.out.below hal22)
    replace HW := Kept.mk (HW.out.trans (Below.mono hal22 HW.out.size))
    have HBv : Kept (Hb (w20.alloc (.cells #[.bool false, .slice none 0 0] 30)) w20.heap.size (.bool false) (.slice none 0 0)) := ⟨Hb.new _ _ _ _ rfl⟩
    have HIv : Kept (IntV 625 (w20.alloc (.cells #[.bool false, .slice none 0 0] 30)) (.agg #[.bool false, .slice none 0 0]) 0) := ⟨hI20.below hal22⟩
    clear hal22 hI20
    clear HIv HBv
    have hop : ∀ W v, IntV 625 W (.agg #[.bool s19, .slice o19 k19 c19]) (16 ^ m * 8) → IntV 1 W v 1 → Calls Tryz.prog 39 #[(.agg #[.bool s19, .slice o19 k19 c19]), v] W (RetOk 625 W (16 ^ m * 8 - 1)) := fun W v h h' => (sub_any h h' (by decide) (by decide)).mono fun e w' hR => hR.yes HSX.out
    have HOP := Kept.mk hop
    clear hop
    go_upto_region 20 with fail
    generalize w20.alloc (.cells #[.bool false, .slice none 0 0] 30) = W20 at *
    have hgx : g19 < W20.heap.size := HBu.out.lt
    have hne1 : ¬ g19 = W20.heap.size := by omega
    have hne2 : ¬ W20.heap.size = g19 := by omega
    go_cut [20, 21] (fun p e wx => ∃ g : Nat, p = .pointer (some ⟨g, 0, none⟩) ∧ e = .int .i64 0 ∧ BoxI 625 wx g (16 ^ m * 8 - 1) ∧ Below W20.heap.size W20 wx)
    case first =>
      obtain ⟨j0, j1, -, -⟩ := two_cells HBu.out
      go_region_held3 (fun w' => w'.cell? ⟨g19, 0, none⟩ = some (.bool s19) ∧ w'.cell? ⟨g19, 1, none⟩ = some (.slice o19 k19 c19))
        (first | exact ⟨l0, l1⟩ | exact ⟨k0', k1'⟩ | exact ⟨j0, j1⟩ | (refine ⟨?_, ?_⟩ <;> simp [go_sem, l0, l1, n1, n2, m1, m2, hne1, hne2]; done) | (refine ⟨?_, ?_⟩ <;> simp [go_sem, k0', k1', n1, n2, hne1, hne2]; done) | (refine ⟨?_, ?_⟩ <;> simp [go_sem, j0, j1, hne1, hne2]; done) | go_keep)
        ((first
          | (go_at_call 30; refine (of_any 1 _ (by decide) (by decide)).mono ?_; rintro e wA ⟨hbA, vA, rfl, hIA⟩; have hyA : Bxs W20 [] wA := Bxs.below (by repeat (first | (with_reducible exact Bxs.start W20) | (with_reducible refine Bxs.drew ?_) | (with_reducible refine Bxs.more ?_ _))) hbA; obtain ⟨k0', k1', _⟩ := two_cells (HBu.out.below hyA.1); have hlA := hyA.1.size; have n1 : ¬ g19 = wA.heap.size := (by omega); have n2 : ¬ wA.heap.size = g19 := (by omega); (try ((have za : Zb wA (W20.heap.size) := ?hzz); (case hzz => ((refine Zb.below ?_ hbA); (repeat (first | (with_reducible assumption) | ((with_reducible refine Zb.new _ _ ?_); simp; done) | (with_reducible refine Zb.drw ?_) | (with_reducible refine Zb.more ?_ _))); done)); obtain ⟨za0, za1, za2, za3⟩ := za.cells; have zal := za.lt)); clear hbA)
          | (go_at_call 39; (with_reducible refine (HOP.out _ _ ?h1 ?h2).mono ?_); (case h1 => exact HIu.out.below (show Bxs W20 [] _ from (by repeat (first | (with_reducible exact hyA) | (with_reducible refine Bxs.drew ?_) | (with_reducible refine Bxs.more ?_ _)))).1); (case h2 => repeat (first | (with_reducible exact hIA) | (with_reducible refine IntV.more ?_ _))); rintro e wB ⟨hbB, sB, oB, kB, cB, rfl, hIB⟩; have hyB : Bxs W20 [] wB := Bxs.below (by repeat (first | (with_reducible exact hyA) | (with_reducible refine Bxs.drew ?_) | (with_reducible refine Bxs.more ?_ _))) hbB; obtain ⟨l0, l1, _⟩ := two_cells (HBu.out.below hyB.1); have hlB := hyB.1.size; have hlAB : wA.heap.size ≤ wB.heap.size := (by have := hbB.size; (try simp at this); omega); obtain ⟨hsB, hnB⟩ := hIB.parts; have HSB := Kept.mk hsB; clear hsB hIB; have m1 : ¬ g19 = wB.heap.size := (by omega); have m2 : ¬ wB.heap.size = g19 := (by omega); (try ((have zc : Zb wB (W20.heap.size) := ?hzz); (case hzz => ((refine Zb.below ?_ hbB); (repeat (first | (with_reducible assumption) | ((with_reducible refine Zb.new _ _ ?_); simp; done) | (with_reducible refine Zb.drw ?_) | (with_reducible refine Zb.more ?_ _))); done)); obtain ⟨zc0, zc1, zc2, zc3⟩ := zc.cells; have zcl := zc.lt)); (try ((have ze : Zb wB (wA.heap.size) := ?hzz); (case hzz => ((refine Zb.below ?_ hbB); (repeat (first | (with_reducible assumption) | ((with_reducible refine Zb.new _ _ ?_); simp; done) | (with_reducible refine Zb.drw ?_) | (with_reducible refine Zb.more ?_ _))); done)); obtain ⟨ze0, ze1, ze2, ze3⟩ := ze.cells; have zel := ze.lt)); clear hbB k0' k1'; (try clear za0 za1 za2 za3))))
      all_goals
        (go_wp2_with fail
         go_meet
         have hbwB : Below W20.heap.size W20 wB := hyB.1
         refine ⟨_, rfl, rfl, ⟨sB, oB, kB, cB, ?_, ⟨_, _, rfl, HSB.out, Okw.num (w0 := W20) ?_ hnB⟩⟩, Okw.bel (w3 := wB) ?_⟩
         all_goals (try (repeat (any_goals (first | (with_reducible exact Okw.start hbwB) | (with_reducible refine Okw.alloc ?_ _) | (with_reducible refine Okw.set ?_ ?_ ?_ _ _)))))
         all_goals (first | omega | (repeat (first | ((with_reducible refine Zb.hb ?_); (with_reducible assumption)) | ((with_reducible refine Hb.new _ _ _ _ ?_); simp; done) | (with_reducible refine Hb.two ?_ _ _) | ((with_reducible refine Hb.other ?_ ?hne _ _); (case hne => omega)) | (with_reducible refine Hb.more ?_ _)))))
    case rest =>
      obtain ⟨g23, rfl, rfl, ⟨s23, o23, k23, c23, hg23, hI23⟩, hbw⟩ := hcut
      replace HBu := Kept.mk (HBu.out.below hbw)
      replace HIu := Kept.mk (HIu.out.below hbw)
      replace HW := Kept.mk (HW.out.trans (Below.mono hbw HW.out.size))
      have HBx := Kept.mk hg23
      have HIx := Kept.mk hI23
      clear hbw hg23 hI23 HOP hgx hne1 hne2
      obtain ⟨p25, q25, -, -⟩ := two_cells HBx.out
      obtain ⟨p26, q26, -, -⟩ := two_cells HBu.out
      go_wp2_with fail
      refine (add_any HIx.out HIu.out (by decide) (by decide)).mono ?_
      rintro e w24 hR
      obtain ⟨hb24, s24, o24, k24, c24, rfl, hI24⟩ := hR.yes HSY.out
      replace HBu := Kept.mk (HBu.out.below hb24)
      replace HIu := Kept.mk (HIu.out.below hb24)
      replace HBx := Kept.mk (HBx.out.below hb24)
      replace HIx := Kept.mk (HIx.out.below hb24)
      replace HW := Kept.mk (HW.out.trans (Below.mono hb24 HW.out.size))
      clear hb24 p25 q25 p26 q26 hR
      have hal27 : Below w24.heap.size w24 (w24.alloc (.cells #[.bool s24, .slice o24 k24 c24] 30)) := (Below.refl _ _).alloc (Nat.le_refl _) _
      replace HBu := Kept.mk (HBu.out.below hal27)
      replace HIu := Kept.mk (HIu.out.below hal27)
      replace HBx := Kept.mk (HBx.out.below hal27)
      replace HIx := Kept.mk (HIx.out.below hal27)
      replace HW := Kept.mk (HW.out.trans (Below.mono hal27 HW.out.size))
      have HBy : Kept (Hb (w24.alloc (.cells #[.bool s24, .slice o24 k24 c24] 30)) w24.heap.size (.bool s24) (.slice o24 k24 c24)) := ⟨Hb.new _ _ _ _ rfl⟩
      have HIy : Kept (IntV 625 (w24.alloc (.cells #[.bool s24, .slice o24 k24 c24] 30)) (.agg #[.bool s24, .slice o24 k24 c24]) (16 ^ m * 8 - 1 + 16 ^ m * 8)) := ⟨hI24.below hal27⟩
      clear hal27 hI24
      go_wp2_with fail
      refine (awake_any _).mono ?_
      rintro e w28 ⟨hb28, he28⟩
      subst he28
      replace HBu := Kept.mk (HBu.out.below hb28)
      replace HIu := Kept.mk (HIu.out.below hb28)
      replace HBx := Kept.mk (HBx.out.below hb28)
      replace HIx := Kept.mk (HIx.out.below hb28)
      replace HBy := Kept.mk (HBy.out.below hb28)
      replace HIy := Kept.mk (HIy.out.below hb28)
      replace HW := Kept.mk (HW.out.trans (Below.mono hb28 HW.out.size))
      clear hb28 
      go_wp2
      go_ret
      exact ⟨HW.out, rfl⟩
end Go.Proofs.YtblbheilddafbaaGreatDoor
