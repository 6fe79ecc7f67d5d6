/-
  Texts of the proof, merged by program: Pas Pasc.
-/
import Derived.Test.YtblbheilddafbaaGreatDoorZSiz1
import Derived.Test.YtblbheilddafbaaGreatDoorZ22
set_option linter.unusedVariables false
set_option linter.unusedSimpArgs false
namespace Go.Proofs.YtblbheilddafbaaGreatDoor
open Go Go.RowKit
set_option maxRecDepth 20000 in
set_option maxHeartbeats 1000000 in
theorem choose_out (n : Nat) (k : Int) (w : World) (hn : n ≤ 1000) (hk : (n : Int) < k) (hk2 : k ≤ 2000) : Calls Tryz.prog 50 #[.int .i64 n, .int .i64 k] w (RetOk 625 w 0) := by
  have HX0 : Kept (Bxs w [.cells #[.bool false, .slice none 0 0] 30] (w.alloc (.cells #[.bool false, .slice none 0 0] 30))) := ⟨(Bxs.start w).alloc (by simp) _⟩
  go_enter Tryz.func50, Tryz.ntmps50
  go_wp2
  exact bodyPost_ret (v := .tuple #[.agg #[.bool false, .slice none 0 0], .int .i64 0]) (by simp [results, Tryz.results50, go_sem]) rfl ⟨HX0.out.1, _, _, _, _, rfl, zeroInt _⟩
theorem choose_at (n k : Nat) (x y : Int) (w : World) (hx : x = n) (hy : y = k) (hn : n ≤ 1000) (hk : k ≤ 1000) : Calls Tryz.prog 50 #[.int .i64 x, .int .i64 y] w (RetOk 625 w ((bin n k : Nat) : Int)) := by
  subst hx hy
  by_cases h : k ≤ n
  · exact choose_any n k w hn h
  · rw [bin_out (by omega)]
    exact choose_out n k w hn (by omega) (by omega)
theorem fact_at (n : Nat) (x : Int) (w : World) (hx : x = n) (hn : n ≤ 1000) : Calls Tryz.prog 51 #[.int .i64 x] w (RetOk 625 w ((fac n : Nat) : Int)) := by
  subst hx
  exact fact_any n w hn
theorem pas_sum (m i : Nat) : ((bin m i : Nat) : Int) + ((bin m (i + 1) : Nat) : Int) = ((bin (m + 1) (i + 1) : Nat) : Int) := (Int.natCast_add _ _).symm
theorem pas_sm {m i : Nat} (hm : m ≤ 999) : smallB (((bin m i : Nat) : Int) + ((bin m (i + 1) : Nat) : Int)).natAbs = true := by
  rw [pas_sum]
  exact bin_small (by omega)
theorem pas_m1 {m i : Nat} (hm : m ≤ 1000) (hi : i ≤ m) : smallB (((bin m i : Nat) : Int) * ((fac i : Nat) : Int)).natAbs = true := by
  rw [← Int.natCast_mul]
  refine smallB_anti (fac_small hm) ?_
  rw [Int.natAbs_natCast, Int.natAbs_natCast, ← bin_fac hi]
  exact Nat.le_mul_of_pos_right _ (fac_pos _)
theorem pas_m2 {m i : Nat} (hi : i ≤ m) : ((bin m i : Nat) : Int) * ((fac i : Nat) : Int) * ((fac (m - i) : Nat) : Int) = ((fac m : Nat) : Int) := by
  rw [← Int.natCast_mul, ← Int.natCast_mul, bin_fac hi]
theorem sum_small {m k : Nat} (hm : m ≤ 1000) (hk : k ≤ m + 1) : smallB ((binSum m k : Nat) : Int).natAbs = true := by
  have h := binSum_le m hk
  rw [binSum_row] at h
  exact smallB_anti (n := 2 ^ 1000) (by decide +kernel) (Nat.le_trans h (Nat.pow_le_pow_right (by omega) hm))
theorem row_two (m : Nat) : ((binSum m (m + 1) : Nat) : Int) = 2 ^ m := by rw [binSum_row, Int.natCast_pow]; rfl
set_option maxRecDepth 20000 in
set_option maxHeartbeats 4000000 in
theorem tallyPascal_any (i0 k0 : Int) (w : World) (h0 : -9223372036854775808 ≤ i0) (h1 : i0 ≤ 9223372036854775807) (h2 : -9223372036854775808 ≤ k0) (h3 : k0 ≤ 9223372036854775807) :
    Calls Tryz.prog 17 #[.int .i64 i0, .int .i64 k0] w (RetV w (.bool true)) := by
  obtain ⟨U, hU⟩ : ∃ U, IntKind.u64.wrap i0 = U := ⟨_, rfl⟩
  obtain ⟨V, hV⟩ : ∃ V, IntKind.u64.wrap k0 = V := ⟨_, rfl⟩
  have hU0 : 0 ≤ U ∧ U ≤ 18446744073709551615 := by rw [← hU, IntKind.wrap_u64]; omega
  have hV0 : 0 ≤ V ∧ V ≤ 18446744073709551615 := by rw [← hV, IntKind.wrap_u64]; omega
  obtain ⟨hU0, hU1⟩ := hU0
  obtain ⟨hV0, hV1⟩ := hV0
  obtain ⟨m, hm⟩ : ∃ m : Nat, U % 60 = m := ⟨(U % 60).toNat, by omega⟩
  have hm1 : m ≤ 59 := by omega
  have hq0 : 0 ≤ V % ((m : Int) + 1) := Int.emod_nonneg _ (by omega)
  have hq1 : V % ((m : Int) + 1) < (m : Int) + 1 := Int.emod_lt_of_pos _ (by omega)
  obtain ⟨i, hi⟩ : ∃ i : Nat, V % ((m : Int) + 1) = i := ⟨(V % ((m : Int) + 1)).toNat, by omega⟩
  have hi1 : i ≤ m := by omega
  have HM := Kept.mk hm
  have HI := Kept.mk hi
  have HQ0 := Kept.mk hq0
  have HQ1 := Kept.mk hq1
  have hz0 : 0 ≤ V % (U % 60 + 1) := by rw [hm]; exact hq0
  have hz1 : V % (U % 60 + 1) ≤ 59 := by rw [hm]; omega
  clear hm hi hq0 hq1
  have HW : Kept (Below w.heap.size w w) := ⟨Below.refl _ _⟩
  go_enter Tryz.func17, Tryz.ntmps17
  go_wp2_with fail
  rw [HM.out, HI.out]
  clear hz0 hz1 hU hV hU0 hU1 hV0 hV1 HM HI HQ0 HQ1
  go_wp2_with fail
  refine (choose_at m i _ _ _ (by first | rfl | omega) (by first | rfl | omega) (by omega) (by omega)).mono ?_
  rintro e w1 hR
  obtain ⟨hb1, s1, o1, k1, c1, rfl, hI1⟩ := hR
  replace HW := Kept.mk (HW.out.trans (Below.mono hb1 HW.out.size))
  clear hb1 
  have hal2 : Below w1.heap.size w1 (w1.alloc (.cells #[.bool s1, .slice o1 k1 c1] 30)) := (Below.refl _ _).alloc (Nat.le_refl _) _
  replace HW := Kept.mk (HW.out.trans (Below.mono hal2 HW.out.size))
  have HBa : Kept (Hb (w1.alloc (.cells #[.bool s1, .slice o1 k1 c1] 30)) w1.heap.size (.bool s1) (.slice o1 k1 c1)) := ⟨Hb.new _ _ _ _ rfl⟩
  have HIa : Kept (IntV 625 (w1.alloc (.cells #[.bool s1, .slice o1 k1 c1] 30)) (.agg #[.bool s1, .slice o1 k1 c1]) ((bin m i : Nat) : Int)) := ⟨hI1.below hal2⟩
  clear hal2 hI1
  go_wp2_with fail
  refine (choose_at m (i + 1) _ _ _ (by first | rfl | omega) (by first | rfl | omega) (by omega) (by omega)).mono ?_
  rintro e w3 hR
  obtain ⟨hb3, s3, o3, k3, c3, rfl, hI3⟩ := hR
  replace HBa := Kept.mk (HBa.out.below hb3)
  replace HIa := Kept.mk (HIa.out.below hb3)
  replace HW := Kept.mk (HW.out.trans (Below.mono hb3 HW.out.size))
  clear hb3 
  have hal4 : Below w3.heap.size w3 (w3.alloc (.cells #[.bool s3, .slice o3 k3 c3] 30)) := (Below.refl _ _).alloc (Nat.le_refl _) _
  replace HBa := Kept.mk (HBa.out.below hal4)
  replace HIa := Kept.mk (HIa.out.below hal4)
  replace HW := Kept.mk (HW.out.trans (Below.mono hal4 HW.out.size))
  have HBb : Kept (Hb (w3.alloc (.cells #[.bool s3, .slice o3 k3 c3] 30)) w3.heap.size (.bool s3) (.slice o3 k3 c3)) := ⟨Hb.new _ _ _ _ rfl⟩
  have HIb : Kept (IntV 625 (w3.alloc (.cells #[.bool s3, .slice o3 k3 c3] 30)) (.agg #[.bool s3, .slice o3 k3 c3]) ((bin m (i + 1) : Nat) : Int)) := ⟨hI3.below hal4⟩
  clear hal4 hI3
  go_wp2_with fail
  refine (choose_at (m + 1) (i + 1) _ _ _ (by first | rfl | omega) (by first | rfl | omega) (by omega) (by omega)).mono ?_
  rintro e w5 hR
  obtain ⟨hb5, s5, o5, k5, c5, rfl, hI5⟩ := hR
  replace HBa := Kept.mk (HBa.out.below hb5)
  replace HIa := Kept.mk (HIa.out.below hb5)
  replace HBb := Kept.mk (HBb.out.below hb5)
  replace HIb := Kept.mk (HIb.out.below hb5)
  replace HW := Kept.mk (HW.out.trans (Below.mono hb5 HW.out.size))
  clear hb5 
  have hal6 : Below w5.heap.size w5 (w5.alloc (.cells #[.bool s5, .slice o5 k5 c5] 30)) := (Below.refl _ _).alloc (Nat.le_refl _) _
  replace HBa := Kept.mk (HBa.out.below hal6)
  replace HIa := Kept.mk (HIa.out.below hal6)
  replace HBb := Kept.mk (HBb.out.below hal6)
  replace HIb := Kept.mk (HIb.out.below hal6)
  replace HW := Kept.mk (HW.out.trans (Below.mono hal6 HW.out.size))
  have HBc : Kept (Hb (w5.alloc (.cells #[.bool s5, .slice o5 k5 c5] 30)) w5.heap.size (.bool s5) (.slice o5 k5 c5)) := ⟨Hb.new _ _ _ _ rfl⟩
  have HIc : Kept (IntV 625 (w5.alloc (.cells #[.bool s5, .slice o5 k5 c5] 30)) (.agg #[.bool s5, .slice o5 k5 c5]) ((bin (m + 1) (i + 1) : Nat) : Int)) := ⟨hI5.below hal6⟩
  clear hal6 hI5
  obtain ⟨p8, q8, -, -⟩ := two_cells HBa.out
  obtain ⟨p9, q9, -, -⟩ := two_cells HBb.out
  go_wp2_with fail
  refine (add_any HIa.out HIb.out (by decide) (by decide)).mono ?_
  rintro e w7 hR
  obtain ⟨hb7, s7, o7, k7, c7, rfl, hI7⟩ := hR.yes (pas_sm (by omega))
  replace HBa := Kept.mk (HBa.out.below hb7)
  replace HIa := Kept.mk (HIa.out.below hb7)
  replace HBb := Kept.mk (HBb.out.below hb7)
  replace HIb := Kept.mk (HIb.out.below hb7)
  replace HBc := Kept.mk (HBc.out.below hb7)
  replace HIc := Kept.mk (HIc.out.below hb7)
  replace HW := Kept.mk (HW.out.trans (Below.mono hb7 HW.out.size))
  clear hb7 p8 q8 p9 q9 hR
  have hal10 : Below w7.heap.size w7 (w7.alloc (.cells #[.bool s7, .slice o7 k7 c7] 30)) := (Below.refl _ _).alloc (Nat.le_refl _) _
  replace HBa := Kept.mk (HBa.out.below hal10)
  replace HIa := Kept.mk (HIa.out.below hal10)
  replace HBb := Kept.mk (HBb.out.below hal10)
  replace HIb := Kept.mk (HIb.out.below hal10)
  replace HBc := Kept.mk (HBc.out.below hal10)
  replace HIc := Kept.mk (HIc.out.below hal10)
  replace HW := Kept.mk (HW.out.trans (Below.mono hal10 HW.out.size))
  have HBd : Kept (Hb (w7.alloc (.cells #[.bool s7, .slice o7 k7 c7] 30)) w7.heap.size (.bool s7) (.slice o7 k7 c7)) := ⟨Hb.new _ _ _ _ rfl⟩
  have HId : Kept (IntV 625 (w7.alloc (.cells #[.bool s7, .slice o7 k7 c7] 30)) (.agg #[.bool s7, .slice o7 k7 c7]) (((bin m i : Nat) : Int) + ((bin m (i + 1) : Nat) : Int))) := ⟨hI7.below hal10⟩
  clear hal10 hI7
  go_wp2_with fail
  refine (fact_at m _ _ (by first | rfl | omega) (by omega)).mono ?_
  rintro e w11 hR
  obtain ⟨hb11, s11, o11, k11, c11, rfl, hI11⟩ := hR
  replace HBa := Kept.mk (HBa.out.below hb11)
  replace HIa := Kept.mk (HIa.out.below hb11)
  replace HBb := Kept.mk (HBb.out.below hb11)
  replace HIb := Kept.mk (HIb.out.below hb11)
  replace HBc := Kept.mk (HBc.out.below hb11)
  replace HIc := Kept.mk (HIc.out.below hb11)
  replace HBd := Kept.mk (HBd.out.below hb11)
  replace HId := Kept.mk (HId.out.below hb11)
  replace HW := Kept.mk (HW.out.trans (Below.mono hb11 HW.out.size))
  clear hb11 
  have hal12 : Below w11.heap.size w11 (w11.alloc (.cells #[.bool s11, .slice o11 k11 c11] 30)) := (Below.refl _ _).alloc (Nat.le_refl _) _
  replace HBa := Kept.mk (HBa.out.below hal12)
  replace HIa := Kept.mk (HIa.out.below hal12)
  replace HBb := Kept.mk (HBb.out.below hal12)
  replace HIb := Kept.mk (HIb.out.below hal12)
  replace HBc := Kept.mk (HBc.out.below hal12)
  replace HIc := Kept.mk (HIc.out.below hal12)
  replace HBd := Kept.mk (HBd.out.below hal12)
  replace HId := Kept.mk (HId.out.below hal12)
  replace HW := Kept.mk (HW.out.trans (Below.mono hal12 HW.out.size))
  have HBx : Kept (Hb (w11.alloc (.cells #[.bool s11, .slice o11 k11 c11] 30)) w11.heap.size (.bool s11) (.slice o11 k11 c11)) := ⟨Hb.new _ _ _ _ rfl⟩
  have HIx : Kept (IntV 625 (w11.alloc (.cells #[.bool s11, .slice o11 k11 c11] 30)) (.agg #[.bool s11, .slice o11 k11 c11]) ((fac m : Nat) : Int)) := ⟨hI11.below hal12⟩
  clear hal12 hI11
  go_wp2_with fail
  refine (fact_at i _ _ (by first | rfl | omega) (by omega)).mono ?_
  rintro e w13 hR
  obtain ⟨hb13, s13, o13, k13, c13, rfl, hI13⟩ := hR
  replace HBa := Kept.mk (HBa.out.below hb13)
  replace HIa := Kept.mk (HIa.out.below hb13)
  replace HBb := Kept.mk (HBb.out.below hb13)
  replace HIb := Kept.mk (HIb.out.below hb13)
  replace HBc := Kept.mk (HBc.out.below hb13)
  replace HIc := Kept.mk (HIc.out.below hb13)
  replace HBd := Kept.mk (HBd.out.below hb13)
  replace HId := Kept.mk (HId.out.below hb13)
  replace HBx := Kept.mk (HBx.out.below hb13)
  replace HIx := Kept.mk (HIx.out.below hb13)
  replace HW := Kept.mk (HW.out.trans (Below.mono hb13 HW.out.size))
  clear hb13 
  have hal14 : Below w13.heap.size w13 (w13.alloc (.cells #[.bool s13, .slice o13 k13 c13] 30)) := (Below.refl _ _).alloc (Nat.le_refl _) _
  replace HBa := Kept.mk (HBa.out.below hal14)
  replace HIa := Kept.mk (HIa.out.below hal14)
  replace HBb := Kept.mk (HBb.out.below hal14)
  replace HIb := Kept.mk (HIb.out.below hal14)
  replace HBc := Kept.mk (HBc.out.below hal14)
  replace HIc := Kept.mk (HIc.out.below hal14)
  replace HBd := Kept.mk (HBd.out.below hal14)
  replace HId := Kept.mk (HId.out.below hal14)
  replace HBx := Kept.mk (HBx.out.below hal14)
  replace HIx := Kept.mk (HIx.out.below hal14)
  replace HW := Kept.mk (HW.out.trans (Below.mono hal14 HW.out.size))
  have HBy : Kept (Hb (w13.alloc (.cells #[.bool s13, .slice o13 k13 c13] 30)) w13.heap.size (.bool s13) (.slice o13 k13 c13)) := ⟨Hb.new _ _ _ _ rfl⟩
  have HIy : Kept (IntV 625 (w13.alloc (.cells #[.bool s13, .slice o13 k13 c13] 30)) (.agg #[.bool s13, .slice o13 k13 c13]) ((fac i : Nat) : Int)) := ⟨hI13.below hal14⟩
  clear hal14 hI13
  go_wp2_with fail
  refine (fact_at (m - i) _ _ (by first | rfl | omega) (by omega)).mono ?_
  rintro e w15 hR
  obtain ⟨hb15, s15, o15, k15, c15, rfl, hI15⟩ := hR
  replace HBa := Kept.mk (HBa.out.below hb15)
  replace HIa := Kept.mk (HIa.out.below hb15)
  replace HBb := Kept.mk (HBb.out.below hb15)
  replace HIb := Kept.mk (HIb.out.below hb15)
  replace HBc := Kept.mk (HBc.out.below hb15)
  replace HIc := Kept.mk (HIc.out.below hb15)
  replace HBd := Kept.mk (HBd.out.below hb15)
  replace HId := Kept.mk (HId.out.below hb15)
  replace HBx := Kept.mk (HBx.out.below hb15)
  replace HIx := Kept.mk (HIx.out.below hb15)
  replace HBy := Kept.mk (HBy.out.below hb15)
  replace HIy := Kept.mk (HIy.out.below hb15)
  replace HW := Kept.mk (HW.out.trans (Below.mono hb15 HW.out.size))
  clear hb15 
  have hal16 : Below w15.heap.size w15 (w15.alloc (.cells #[.bool s15, .slice o15 k15 c15] 30)) := (Below.refl _ _).alloc (Nat.le_refl _) _
  replace HBa := Kept.mk (HBa.out.below hal16)
  replace HIa := Kept.mk (HIa.out.below hal16)
  replace HBb := Kept.mk (HBb.out.below hal16)
  replace HIb := Kept.mk (HIb.out.below hal16)
  replace HBc := Kept.mk (HBc.out.below hal16)
  replace HIc := Kept.mk (HIc.out.below hal16)
  replace HBd := Kept.mk (HBd.out.below hal16)
  replace HId := Kept.mk (HId.out.below hal16)
  replace HBx := Kept.mk (HBx.out.below hal16)
  replace HIx := Kept.mk (HIx.out.below hal16)
  replace HBy := Kept.mk (HBy.out.below hal16)
  replace HIy := Kept.mk (HIy.out.below hal16)
  replace HW := Kept.mk (HW.out.trans (Below.mono hal16 HW.out.size))
  have HBz : Kept (Hb (w15.alloc (.cells #[.bool s15, .slice o15 k15 c15] 30)) w15.heap.size (.bool s15) (.slice o15 k15 c15)) := ⟨Hb.new _ _ _ _ rfl⟩
  have HIz : Kept (IntV 625 (w15.alloc (.cells #[.bool s15, .slice o15 k15 c15] 30)) (.agg #[.bool s15, .slice o15 k15 c15]) ((fac (m - i) : Nat) : Int)) := ⟨hI15.below hal16⟩
  clear hal16 hI15
  have HE1 : Kept (Dg.sg (((bin m i : Nat) : Int) + ((bin m (i + 1) : Nat) : Int)) ((bin (m + 1) (i + 1) : Nat) : Int) = 0) := ⟨by rw [pas_sum]; exact Dg.sg_eq _⟩
  obtain ⟨p18, q18, -, -⟩ := two_cells HBd.out
  obtain ⟨p19, q19, -, -⟩ := two_cells HBc.out
  go_wp2_with fail
  refine (cmp_any HId.out HIc.out).mono ?_
  rintro e w17 ⟨hb17, he17⟩
  rw [HE1.out] at he17
  subst he17
  replace HBa := Kept.mk (HBa.out.below hb17)
  replace HIa := Kept.mk (HIa.out.below hb17)
  replace HBb := Kept.mk (HBb.out.below hb17)
  replace HIb := Kept.mk (HIb.out.below hb17)
  replace HBc := Kept.mk (HBc.out.below hb17)
  replace HIc := Kept.mk (HIc.out.below hb17)
  replace HBd := Kept.mk (HBd.out.below hb17)
  replace HId := Kept.mk (HId.out.below hb17)
  replace HBx := Kept.mk (HBx.out.below hb17)
  replace HIx := Kept.mk (HIx.out.below hb17)
  replace HBy := Kept.mk (HBy.out.below hb17)
  replace HIy := Kept.mk (HIy.out.below hb17)
  replace HBz := Kept.mk (HBz.out.below hb17)
  replace HIz := Kept.mk (HIz.out.below hb17)
  replace HW := Kept.mk (HW.out.trans (Below.mono hb17 HW.out.size))
  clear hb17 p18 q18 p19 q19
  obtain ⟨p21, q21, -, -⟩ := two_cells HBa.out
  obtain ⟨p22, q22, -, -⟩ := two_cells HBy.out
  go_wp2_with fail
  refine (mul_any HIa.out HIy.out (by decide) (by decide)).mono ?_
  rintro e w20 hR
  obtain ⟨hb20, s20, o20, k20, c20, rfl, hI20⟩ := hR.yes (pas_m1 (by omega) hi1)
  replace HBa := Kept.mk (HBa.out.below hb20)
  replace HIa := Kept.mk (HIa.out.below hb20)
  replace HBb := Kept.mk (HBb.out.below hb20)
  replace HIb := Kept.mk (HIb.out.below hb20)
  replace HBc := Kept.mk (HBc.out.below hb20)
  replace HIc := Kept.mk (HIc.out.below hb20)
  replace HBd := Kept.mk (HBd.out.below hb20)
  replace HId := Kept.mk (HId.out.below hb20)
  replace HBx := Kept.mk (HBx.out.below hb20)
  replace HIx := Kept.mk (HIx.out.below hb20)
  replace HBy := Kept.mk (HBy.out.below hb20)
  replace HIy := Kept.mk (HIy.out.below hb20)
  replace HBz := Kept.mk (HBz.out.below hb20)
  replace HIz := Kept.mk (HIz.out.below hb20)
  replace HW := Kept.mk (HW.out.trans (Below.mono hb20 HW.out.size))
  clear hb20 p21 q21 p22 q22 hR
  have hal23 : Below w20.heap.size w20 (w20.alloc (.cells #[.bool s20, .slice o20 k20 c20] 30)) := (Below.refl _ _).alloc (Nat.le_refl _) _
  replace HBa := Kept.mk (HBa.out.below hal23)
  replace HIa := Kept.mk (HIa.out.below hal23)
  replace HBb := Kept.mk (HBb.out.below hal23)
  replace HIb := Kept.mk (HIb.out.below hal23)
  replace HBc := Kept.mk (HBc.out.below hal23)
  replace HIc := Kept.mk (HIc.out.below hal23)
  replace HBd := Kept.mk (HBd.out.below hal23)
  replace HId := Kept.mk (HId.out.below hal23)
  replace HBx := Kept.mk (HBx.out.below hal23)
  replace HIx := Kept.mk (HIx.out.below hal23)
  replace HBy := Kept.mk (HBy.out.below hal23)
  replace HIy := Kept.mk (HIy.out.below hal23)
  replace HBz := Kept.mk (HBz.out.below hal23)
  replace HIz := Kept.mk (HIz.out.below hal23)
  replace HW := Kept.mk (HW.out.trans (Below.mono hal23 HW.out.size))
  have HBu : Kept (Hb (w20.alloc (.cells #[.bool s20, .slice o20 k20 c20] 30)) w20.heap.size (.bool s20) (.slice o20 k20 c20)) := ⟨Hb.new _ _ _ _ rfl⟩
  have HIu : Kept (IntV 625 (w20.alloc (.cells #[.bool s20, .slice o20 k20 c20] 30)) (.agg #[.bool s20, .slice o20 k20 c20]) (((bin m i : Nat) : Int) * ((fac i : Nat) : Int))) := ⟨hI20.below hal23⟩
  clear hal23 hI20
  have HSv : Kept (smallB (((bin m i : Nat) : Int) * ((fac i : Nat) : Int) * ((fac (m - i) : Nat) : Int)).natAbs = true) := ⟨by rw [pas_m2 hi1]; exact fac_small (by omega)⟩
  obtain ⟨p25, q25, -, -⟩ := two_cells HBu.out
  obtain ⟨p26, q26, -, -⟩ := two_cells HBz.out
  go_wp2_with fail
  refine (mul_any HIu.out HIz.out (by decide) (by decide)).mono ?_
  rintro e w24 hR
  obtain ⟨hb24, s24, o24, k24, c24, rfl, hI24⟩ := hR.yes HSv.out
  replace HBa := Kept.mk (HBa.out.below hb24)
  replace HIa := Kept.mk (HIa.out.below hb24)
  replace HBb := Kept.mk (HBb.out.below hb24)
  replace HIb := Kept.mk (HIb.out.below hb24)
  replace HBc := Kept.mk (HBc.out.below hb24)
  replace HIc := Kept.mk (HIc.out.below hb24)
  replace HBd := Kept.mk (HBd.out.below hb24)
  replace HId := Kept.mk (HId.out.below hb24)
  replace HBx := Kept.mk (HBx.out.below hb24)
  replace HIx := Kept.mk (HIx.out.below hb24)
  replace HBy := Kept.mk (HBy.out.below hb24)
  replace HIy := Kept.mk (HIy.out.below hb24)
  replace HBz := Kept.mk (HBz.out.below hb24)
  replace HIz := Kept.mk (HIz.out.below hb24)
  replace HBu := Kept.mk (HBu.out.below hb24)
  replace HIu := Kept.mk (HIu.out.below hb24)
  replace HW := Kept.mk (HW.out.trans (Below.mono hb24 HW.out.size))
  clear hb24 p25 q25 p26 q26 hR
  have hal27 : Below w24.heap.size w24 (w24.alloc (.cells #[.bool s24, .slice o24 k24 c24] 30)) := (Below.refl _ _).alloc (Nat.le_refl _) _
  replace HBa := Kept.mk (HBa.out.below hal27)
  replace HIa := Kept.mk (HIa.out.below hal27)
  replace HBb := Kept.mk (HBb.out.below hal27)
  replace HIb := Kept.mk (HIb.out.below hal27)
  replace HBc := Kept.mk (HBc.out.below hal27)
  replace HIc := Kept.mk (HIc.out.below hal27)
  replace HBd := Kept.mk (HBd.out.below hal27)
  replace HId := Kept.mk (HId.out.below hal27)
  replace HBx := Kept.mk (HBx.out.below hal27)
  replace HIx := Kept.mk (HIx.out.below hal27)
  replace HBy := Kept.mk (HBy.out.below hal27)
  replace HIy := Kept.mk (HIy.out.below hal27)
  replace HBz := Kept.mk (HBz.out.below hal27)
  replace HIz := Kept.mk (HIz.out.below hal27)
  replace HBu := Kept.mk (HBu.out.below hal27)
  replace HIu := Kept.mk (HIu.out.below hal27)
  replace HW := Kept.mk (HW.out.trans (Below.mono hal27 HW.out.size))
  have HBv : Kept (Hb (w24.alloc (.cells #[.bool s24, .slice o24 k24 c24] 30)) w24.heap.size (.bool s24) (.slice o24 k24 c24)) := ⟨Hb.new _ _ _ _ rfl⟩
  have HIv : Kept (IntV 625 (w24.alloc (.cells #[.bool s24, .slice o24 k24 c24] 30)) (.agg #[.bool s24, .slice o24 k24 c24]) (((bin m i : Nat) : Int) * ((fac i : Nat) : Int) * ((fac (m - i) : Nat) : Int))) := ⟨hI24.below hal27⟩
  clear hal27 hI24
  clear HIa HBa
  clear HIb HBb
  clear HIc HBc
  clear HId HBd
  clear HIy HBy
  clear HIz HBz
  clear HIu HBu
  go_wp2_with fail
  refine (of_any 0 _ (by omega) (by omega)).mono ?_
  rintro e w28 ⟨hb28, v28, rfl, hJ28⟩
  obtain ⟨s28, u28, rfl, hs28, hn28⟩ := hJ28
  obtain ⟨o28, k28, c28, rfl⟩ := hn28.form
  have hI28 : IntV 625 w28 (.agg #[.bool s28, .slice o28 k28 c28]) 0 := IntV.mono ⟨_, _, rfl, hs28, hn28⟩ (by decide)
  replace HBx := Kept.mk (HBx.out.below hb28)
  replace HIx := Kept.mk (HIx.out.below hb28)
  replace HBv := Kept.mk (HBv.out.below hb28)
  replace HIv := Kept.mk (HIv.out.below hb28)
  replace HW := Kept.mk (HW.out.trans (Below.mono hb28 HW.out.size))
  have HWS := Kept.mk HW.out.size
  have hl_x := HBx.out.lt
  have hl_v := HBv.out.lt
  clear hb28 hs28 hn28 
  have hal29 : Below w28.heap.size w28 (w28.alloc (.cells #[.bool s28, .slice o28 k28 c28] 30)) := (Below.refl _ _).alloc (Nat.le_refl _) _
  replace HBx := Kept.mk (HBx.out.below hal29)
  replace HIx := Kept.mk (HIx.out.below hal29)
  replace HBv := Kept.mk (HBv.out.below hal29)
  replace HIv := Kept.mk (HIv.out.below hal29)
  replace HW := Kept.mk (HW.out.trans (Below.mono hal29 HW.out.size))
  have HBs : Kept (Hb (w28.alloc (.cells #[.bool s28, .slice o28 k28 c28] 30)) w28.heap.size (.bool s28) (.slice o28 k28 c28)) := ⟨Hb.new _ _ _ _ rfl⟩
  have HIs : Kept (IntV 625 (w28.alloc (.cells #[.bool s28, .slice o28 k28 c28] 30)) (.agg #[.bool s28, .slice o28 k28 c28]) 0) := ⟨hI28.below hal29⟩
  clear hal29 hI28
  have hgw := HBs.out.lt
  have HGS0 : Kept (w.heap.size ≤ w28.heap.size) := HWS
  go_wp2
  go_loopw [26] (fun r wr => ∃ (q : Nat) (s : Bool) (o : Option Addr) (kk cc : Nat), q ≤ m + 1 ∧ r = .int .i64 q ∧ Kept (Hb wr w28.heap.size (.bool s) (.slice o kk cc)) ∧ Kept (IntV 625 wr (.agg #[.bool s, .slice o kk cc]) ((binSum m q : Nat) : Int)) ∧ Kept (Hb wr w24.heap.size (.bool s24) (.slice o24 k24 c24)) ∧ Kept (IntV 625 wr (.agg #[.bool s24, .slice o24 k24 c24]) (((bin m i : Nat) : Int) * ((fac i : Nat) : Int) * ((fac (m - i) : Nat) : Int))) ∧ Kept (Hb wr w11.heap.size (.bool s11) (.slice o11 k11 c11)) ∧ Kept (IntV 625 wr (.agg #[.bool s11, .slice o11 k11 c11]) ((fac m : Nat) : Int)) ∧ Kept (Below w.heap.size w wr) ∧ Kept (w.heap.size ≤ w28.heap.size)) (fun r _ => m + 1 - (intOf r).toNat)
  case atStart => exact ⟨0, s28, o28, k28, c28, Nat.zero_le _, rfl, HBs, HIs, HBv, HIv, HBx, HIx, HW, ⟨HGS0.out⟩⟩
  case round =>
    obtain ⟨q, s, o, kk, cc, hq, rfl, HBs, HIs, HBv, HIv, HBx, HIx, HW, HGS⟩ := hrel
    clear hgw
    by_cases hqm : q ≤ m
    · skip
      go_wp2_with fail
      refine (choose_at m q _ _ _ (by first | rfl | omega) (by first | rfl | omega) (by omega) (by omega)).mono ?_
      rintro e w30 hR
      obtain ⟨hb30, s30, o30, k30, c30, rfl, hI30⟩ := hR
      replace HBx := Kept.mk (HBx.out.below hb30)
      replace HIx := Kept.mk (HIx.out.below hb30)
      replace HBv := Kept.mk (HBv.out.below hb30)
      replace HIv := Kept.mk (HIv.out.below hb30)
      replace HBs := Kept.mk (HBs.out.below hb30)
      replace HIs := Kept.mk (HIs.out.below hb30)
      replace HW := Kept.mk (HW.out.trans (Below.mono hb30 HW.out.size))
      clear hb30 
      have hal31 : Below w30.heap.size w30 (w30.alloc (.cells #[.bool s30, .slice o30 k30 c30] 30)) := (Below.refl _ _).alloc (Nat.le_refl _) _
      replace HBx := Kept.mk (HBx.out.below hal31)
      replace HIx := Kept.mk (HIx.out.below hal31)
      replace HBv := Kept.mk (HBv.out.below hal31)
      replace HIv := Kept.mk (HIv.out.below hal31)
      replace HBs := Kept.mk (HBs.out.below hal31)
      replace HIs := Kept.mk (HIs.out.below hal31)
      replace HW := Kept.mk (HW.out.trans (Below.mono hal31 HW.out.size))
      have HBww : Kept (Hb (w30.alloc (.cells #[.bool s30, .slice o30 k30 c30] 30)) w30.heap.size (.bool s30) (.slice o30 k30 c30)) := ⟨Hb.new _ _ _ _ rfl⟩
      have HIww : Kept (IntV 625 (w30.alloc (.cells #[.bool s30, .slice o30 k30 c30] 30)) (.agg #[.bool s30, .slice o30 k30 c30]) ((bin m q : Nat) : Int)) := ⟨hI30.below hal31⟩
      clear hal31 hI30
      have HSS : Kept (smallB (((binSum m q : Nat) : Int) + ((bin m q : Nat) : Int)).natAbs = true) := ⟨by rw [← Int.natCast_add]; exact sum_small (k := q + 1) (by omega) (by omega)⟩
      obtain ⟨p33, q33, -, -⟩ := two_cells HBs.out
      obtain ⟨p34, q34, -, -⟩ := two_cells HBww.out
      go_wp2_with fail
      refine (add_any HIs.out HIww.out (by decide) (by decide)).mono ?_
      rintro e w32 hR
      obtain ⟨hb32, s32, o32, k32, c32, rfl, hI32⟩ := hR.yes HSS.out
      replace HBx := Kept.mk (HBx.out.below hb32)
      replace HIx := Kept.mk (HIx.out.below hb32)
      replace HBv := Kept.mk (HBv.out.below hb32)
      replace HIv := Kept.mk (HIv.out.below hb32)
      replace HBs := Kept.mk (HBs.out.below hb32)
      replace HIs := Kept.mk (HIs.out.below hb32)
      replace HBww := Kept.mk (HBww.out.below hb32)
      replace HIww := Kept.mk (HIww.out.below hb32)
      replace HW := Kept.mk (HW.out.trans (Below.mono hb32 HW.out.size))
      clear hb32 p33 q33 p34 q34 hR
      have hal35 : Below w32.heap.size w32 (w32.alloc (.cells #[.bool s32, .slice o32 k32 c32] 30)) := (Below.refl _ _).alloc (Nat.le_refl _) _
      replace HBx := Kept.mk (HBx.out.below hal35)
      replace HIx := Kept.mk (HIx.out.below hal35)
      replace HBv := Kept.mk (HBv.out.below hal35)
      replace HIv := Kept.mk (HIv.out.below hal35)
      replace HBs := Kept.mk (HBs.out.below hal35)
      replace HIs := Kept.mk (HIs.out.below hal35)
      replace HBww := Kept.mk (HBww.out.below hal35)
      replace HIww := Kept.mk (HIww.out.below hal35)
      replace HW := Kept.mk (HW.out.trans (Below.mono hal35 HW.out.size))
      have HBtt : Kept (Hb (w32.alloc (.cells #[.bool s32, .slice o32 k32 c32] 30)) w32.heap.size (.bool s32) (.slice o32 k32 c32)) := ⟨Hb.new _ _ _ _ rfl⟩
      have HItt : Kept (IntV 625 (w32.alloc (.cells #[.bool s32, .slice o32 k32 c32] 30)) (.agg #[.bool s32, .slice o32 k32 c32]) (((binSum m q : Nat) : Int) + ((bin m q : Nat) : Int))) := ⟨hI32.below hal35⟩
      clear hal35 hI32
      obtain ⟨p36, q36, -, -⟩ := two_cells HBtt.out
      obtain ⟨p37, q37, -, -⟩ := two_cells HBs.out
      obtain ⟨-, -, fs0, fs1⟩ := two_cells HBs.out
      have hgl := HBs.out.lt
      have HBs2 : Kept (Hb (((w32.alloc (.cells #[.bool s32, .slice o32 k32 c32] 30)).setCell ⟨w28.heap.size, 0, none⟩ (.bool s32)).setCell ⟨w28.heap.size, 1, none⟩ (.slice o32 k32 c32)) w28.heap.size (.bool s32) (.slice o32 k32 c32)) := ⟨two_set HBs.out _ _⟩
      have HIs2 : Kept (IntV 625 (((w32.alloc (.cells #[.bool s32, .slice o32 k32 c32] 30)).setCell ⟨w28.heap.size, 0, none⟩ (.bool s32)).setCell ⟨w28.heap.size, 1, none⟩ (.slice o32 k32 c32)) (.agg #[.bool s32, .slice o32 k32 c32]) ((binSum m (q + 1) : Nat) : Int)) := ⟨by have h := HItt.out.parts; rw [show ((binSum m (q + 1) : Nat) : Int) = ((binSum m q : Nat) : Int) + ((bin m q : Nat) : Int) from Int.natCast_add _ _]; exact ⟨_, _, rfl, h.1, h.2.box HBs.out _ _⟩⟩
      have HBv2 : Kept (Hb (((w32.alloc (.cells #[.bool s32, .slice o32 k32 c32] 30)).setCell ⟨w28.heap.size, 0, none⟩ (.bool s32)).setCell ⟨w28.heap.size, 1, none⟩ (.slice o32 k32 c32)) w24.heap.size (.bool s24) (.slice o24 k24 c24)) := ⟨HBv.out.other (by omega) _ _⟩
      have HIv2 : Kept (IntV 625 (((w32.alloc (.cells #[.bool s32, .slice o32 k32 c32] 30)).setCell ⟨w28.heap.size, 0, none⟩ (.bool s32)).setCell ⟨w28.heap.size, 1, none⟩ (.slice o32 k32 c32)) (.agg #[.bool s24, .slice o24 k24 c24]) (((bin m i : Nat) : Int) * ((fac i : Nat) : Int) * ((fac (m - i) : Nat) : Int))) := ⟨by have h := HIv.out.parts; exact ⟨_, _, rfl, h.1, h.2.box HBs.out _ _⟩⟩
      have HBx2 : Kept (Hb (((w32.alloc (.cells #[.bool s32, .slice o32 k32 c32] 30)).setCell ⟨w28.heap.size, 0, none⟩ (.bool s32)).setCell ⟨w28.heap.size, 1, none⟩ (.slice o32 k32 c32)) w11.heap.size (.bool s11) (.slice o11 k11 c11)) := ⟨HBx.out.other (by omega) _ _⟩
      have HIx2 : Kept (IntV 625 (((w32.alloc (.cells #[.bool s32, .slice o32 k32 c32] 30)).setCell ⟨w28.heap.size, 0, none⟩ (.bool s32)).setCell ⟨w28.heap.size, 1, none⟩ (.slice o32 k32 c32)) (.agg #[.bool s11, .slice o11 k11 c11]) ((fac m : Nat) : Int)) := ⟨by have h := HIx.out.parts; exact ⟨_, _, rfl, h.1, h.2.box HBs.out _ _⟩⟩
      have HW2 : Kept (Below w.heap.size w (((w32.alloc (.cells #[.bool s32, .slice o32 k32 c32] 30)).setCell ⟨w28.heap.size, 0, none⟩ (.bool s32)).setCell ⟨w28.heap.size, 1, none⟩ (.slice o32 k32 c32))) := ⟨(HW.out.setCell (p := ⟨w28.heap.size, 0, none⟩) HGS.out _).setCell (p := ⟨w28.heap.size, 1, none⟩) HGS.out _⟩
      go_wp2
      go_roundw
      case rel => exact ⟨q + 1, s32, o32, k32, c32, by omega, by go_num, HBs2, HIs2, HBv2, HIv2, HBx2, HIx2, HW2, HGS⟩
      case measure => simp [intOf]; omega
    · skip
      obtain rfl : q = m + 1 := by omega
      go_wp2_with fail
      refine (of_any 2 _ (by omega) (by omega)).mono ?_
      rintro e w30 ⟨hb30, v30, rfl, hJ30⟩
      obtain ⟨s30, u30, rfl, hs30, hn30⟩ := hJ30
      obtain ⟨o30, k30, c30, rfl⟩ := hn30.form
      have HT2 : Kept (IntV 1 w30 (.agg #[.bool s30, .slice o30 k30 c30]) 2) := ⟨⟨_, _, rfl, hs30, hn30⟩⟩
      replace HBx := Kept.mk (HBx.out.below hb30)
      replace HIx := Kept.mk (HIx.out.below hb30)
      replace HBv := Kept.mk (HBv.out.below hb30)
      replace HIv := Kept.mk (HIv.out.below hb30)
      replace HBs := Kept.mk (HBs.out.below hb30)
      replace HIs := Kept.mk (HIs.out.below hb30)
      replace HW := Kept.mk (HW.out.trans (Below.mono hb30 HW.out.size))
      clear hb30 hs30 hn30
      have HSP : Kept (smallB ((2 : Int) ^ m).natAbs = true) := ⟨small_two (by omega)⟩
      go_wp2_with fail
      refine (pow_any (n := m) HT2.out (by decide) (by omega)).mono ?_
      rintro e w31 hR
      obtain ⟨hb31, s31, o31, k31, c31, rfl, hI31⟩ := hR.yes HSP.out
      replace HBx := Kept.mk (HBx.out.below hb31)
      replace HIx := Kept.mk (HIx.out.below hb31)
      replace HBv := Kept.mk (HBv.out.below hb31)
      replace HIv := Kept.mk (HIv.out.below hb31)
      replace HBs := Kept.mk (HBs.out.below hb31)
      replace HIs := Kept.mk (HIs.out.below hb31)
      replace HW := Kept.mk (HW.out.trans (Below.mono hb31 HW.out.size))
      clear hb31  hR
      have hal32 : Below w31.heap.size w31 (w31.alloc (.cells #[.bool s31, .slice o31 k31 c31] 30)) := (Below.refl _ _).alloc (Nat.le_refl _) _
      replace HBx := Kept.mk (HBx.out.below hal32)
      replace HIx := Kept.mk (HIx.out.below hal32)
      replace HBv := Kept.mk (HBv.out.below hal32)
      replace HIv := Kept.mk (HIv.out.below hal32)
      replace HBs := Kept.mk (HBs.out.below hal32)
      replace HIs := Kept.mk (HIs.out.below hal32)
      replace HW := Kept.mk (HW.out.trans (Below.mono hal32 HW.out.size))
      have HBtw : Kept (Hb (w31.alloc (.cells #[.bool s31, .slice o31 k31 c31] 30)) w31.heap.size (.bool s31) (.slice o31 k31 c31)) := ⟨Hb.new _ _ _ _ rfl⟩
      have HItw : Kept (IntV 625 (w31.alloc (.cells #[.bool s31, .slice o31 k31 c31] 30)) (.agg #[.bool s31, .slice o31 k31 c31]) (2 ^ m)) := ⟨hI31.below hal32⟩
      clear hal32 hI31
      have HE2 : Kept (Dg.sg ((((bin m i : Nat) : Int) * ((fac i : Nat) : Int) * ((fac (m - i) : Nat) : Int))) ((fac m : Nat) : Int) = 0) := ⟨by rw [pas_m2 hi1]; exact Dg.sg_eq _⟩
      have HE3 : Kept (Dg.sg ((binSum m (m + 1) : Nat) : Int) (2 ^ m) = 0) := ⟨by rw [row_two]; exact Dg.sg_eq _⟩
      obtain ⟨p34, q34, -, -⟩ := two_cells HBv.out
      obtain ⟨p35, q35, -, -⟩ := two_cells HBx.out
      go_wp2_with fail
      refine (cmp_any HIv.out HIx.out).mono ?_
      rintro e w33 ⟨hb33, he33⟩
      rw [HE2.out] at he33
      subst he33
      replace HBx := Kept.mk (HBx.out.below hb33)
      replace HIx := Kept.mk (HIx.out.below hb33)
      replace HBv := Kept.mk (HBv.out.below hb33)
      replace HIv := Kept.mk (HIv.out.below hb33)
      replace HBs := Kept.mk (HBs.out.below hb33)
      replace HIs := Kept.mk (HIs.out.below hb33)
      replace HBtw := Kept.mk (HBtw.out.below hb33)
      replace HItw := Kept.mk (HItw.out.below hb33)
      replace HW := Kept.mk (HW.out.trans (Below.mono hb33 HW.out.size))
      clear hb33 p34 q34 p35 q35
      obtain ⟨p37, q37, -, -⟩ := two_cells HBs.out
      obtain ⟨p38, q38, -, -⟩ := two_cells HBtw.out
      go_wp2_with fail
      refine (cmp_any HIs.out HItw.out).mono ?_
      rintro e w36 ⟨hb36, he36⟩
      rw [HE3.out] at he36
      subst he36
      replace HBx := Kept.mk (HBx.out.below hb36)
      replace HIx := Kept.mk (HIx.out.below hb36)
      replace HBv := Kept.mk (HBv.out.below hb36)
      replace HIv := Kept.mk (HIv.out.below hb36)
      replace HBs := Kept.mk (HBs.out.below hb36)
      replace HIs := Kept.mk (HIs.out.below hb36)
      replace HBtw := Kept.mk (HBtw.out.below hb36)
      replace HItw := Kept.mk (HItw.out.below hb36)
      replace HW := Kept.mk (HW.out.trans (Below.mono hb36 HW.out.size))
      clear hb36 p37 q37 p38 q38
      go_wp2_with fail
      refine (awake_any _).mono ?_
      rintro e w39 ⟨hb39, he39⟩
      subst he39
      replace HBx := Kept.mk (HBx.out.below hb39)
      replace HIx := Kept.mk (HIx.out.below hb39)
      replace HBv := Kept.mk (HBv.out.below hb39)
      replace HIv := Kept.mk (HIv.out.below hb39)
      replace HBs := Kept.mk (HBs.out.below hb39)
      replace HIs := Kept.mk (HIs.out.below hb39)
      replace HBtw := Kept.mk (HBtw.out.below hb39)
      replace HItw := Kept.mk (HItw.out.below hb39)
      replace HW := Kept.mk (HW.out.trans (Below.mono hb39 HW.out.size))
      clear hb39 
      go_wp2
      go_ret
      exact ⟨HW.out, rfl⟩
end Go.Proofs.YtblbheilddafbaaGreatDoor

set_option linter.unusedVariables false
namespace Go.Proofs.YtblbheilddafbaaGreatDoor.tallyPascal
open Go Go.ChangeShapes Go.WideShapes Go.ChangeAt Go.RowKit Go.Proofs.YtblbheilddafbaaGreatDoor
set_option maxRecDepth 100000 in
theorem contract (H : Type) (enc : TypeId × Value → H) (W : World) (base : Nat) (args : Array Value) (ds gs : List (DataW H)) (before : List MemPlace)
    (hval : ∀ (j : Nat) t v, Tryz.f17.params[j]? = some t → args[j]? = some v → Value.okWide Tryz.prog W .any base t v)
    (hW : DataW.Whole enc Tryz.prog Tryz.f17.params.toList Rows.tallyPascalSpec.vars false W args.toList ds gs before) :
    Calls Tryz.prog 17 args W fun e W' => ∃ v, e = .returned v ∧ Rows.tallyPascalSpec.post enc Tryz.prog Tryz.f17 false true false false W args v W' := by
  have hW' := hW
  obtain ⟨p, q, hA0, hV, rfl, hfz, hnd⟩ := hW
  have hA : DataW.TrodAll enc Tryz.prog W 0 (fun _ => true) true Tryz.f17.params.toList args.toList ds p := hA0
  rw [Tryz.params17] at hA hval
  obtain ⟨v0, vs0, d0, ds0, p0, q0, hargs, rfl, rfl, h0, r0⟩ := trodAll_cons hA
  obtain ⟨v1, vs1, d1, ds1, p1, q1, rfl, rfl, rfl, h1, r1⟩ := trodAll_cons r0
  obtain ⟨rfl, rfl, rfl⟩ := trodAll_nil r1
  obtain rfl : args = #[v0, v1] := Array.toList_inj.1 hargs
  obtain ⟨rfl, rfl⟩ := trodVars_none hV
  obtain ⟨a0, rfl, rfl, rfl, w0⟩ := open_int Tryz.underlying3 (hval 0 3 v0 rfl rfl) h0
  obtain ⟨a1, rfl, rfl, rfl, w1⟩ := open_int Tryz.underlying3 (hval 1 3 v1 rfl rfl) h1
  clear hA0
  simp only [List.append_nil] at hW'
  have hr0 := i64_bounds w0
  have hr1 := i64_bounds w1
  refine (tallyPascal_any a0 a1 W hr0.1 hr0.2 hr1.1 hr1.2).mono fun e W' ⟨hb, he⟩ => ?_
  subst he
  exact ⟨_, rfl, post_of_below (pa := []) (pv := []) hW' (fun _ _ _ => trodAll_cons_mk (shut_bool Tryz.underlying4 _) trodAll_mk0) (fun _ _ => trodAll_cons_mk (shut_int Tryz.underlying3 w0) (trodAll_cons_mk (shut_int Tryz.underlying3 w1) trodAll_mk0)) (fun _ _ => rfl) rfl
    hb (ok_one (by kernel_rfl) rfl (okWide_bool_mk Tryz.underlying4 _))⟩
end Go.Proofs.YtblbheilddafbaaGreatDoor.tallyPascal
