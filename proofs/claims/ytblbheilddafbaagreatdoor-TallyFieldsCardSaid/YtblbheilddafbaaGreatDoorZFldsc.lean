/-
  Texts of the proof, merged by program: Flds Fldsc.
-/
import Derived.Test.YtblbheilddafbaaGreatDoorZFle
import Derived.Test.YtblbheilddafbaaGreatDoorZFra
import Derived.Test.YtblbheilddafbaaGreatDoorZRsb
import Derived.Test.YtblbheilddafbaaGreatDoorZ22
import Derived.SizedLaws
import Derived.ChangeMaps5
set_option linter.unusedVariables false
set_option linter.unusedSimpArgs false
namespace Go.Proofs.YtblbheilddafbaaGreatDoor
open Go Go.RowKit
set_option maxRecDepth 20000 in
set_option maxHeartbeats 2000000 in
theorem rquoq_zero {La Lb : Nat} {va vb : Value} {p q t : Int} {w : World} (ha : RatV La w va p q) (hb : RatV Lb w vb 0 t) :
    Calls Tryz.prog 76 #[va, vb] w (RetV w (.tuple #[rat0, .int .i64 6])) := by
  obtain ⟨sa, ao, ka, ca, uo, ku, cu, rfl, ra1, ra2, ra3, ra4⟩ := ha.form
  have hb' := hb
  obtain ⟨sb, bo, kb, cb, yo, ky, cy, rfl, rb1, rb2, rb3, rb4⟩ := hb.form
  have HX0 : Kept (Bxs w [.cells #[.bool sa, .slice ao ka ca, .slice uo ku cu] 76, .cells #[.bool sb, .slice bo kb cb, .slice yo ky cy] 76, .cells #[.bool false, .slice none 0 0, .slice none 0 0] 76] (((w.alloc (.cells #[.bool sa, .slice ao ka ca, .slice uo ku cu] 76)).alloc (.cells #[.bool sb, .slice bo kb cb, .slice yo ky cy] 76)).alloc (.cells #[.bool false, .slice none 0 0, .slice none 0 0] 76))) := ⟨(((Bxs.start w).alloc (by simp) _).alloc (by simp) _).alloc (by simp) _⟩
  have hsi := rsign_any (hb'.below HX0.out.1)
  rw [Dg.sg_eq] at hsi
  have HSI := Kept.mk hsi
  clear ha hb hb' ra1 ra2 ra3 ra4 rb1 rb2 rb3 rb4 hsi
  obtain ⟨i3, i4, i5, -⟩ := three_cells HX0.out.b1
  go_enter Tryz.func76, Tryz.ntmps76
  go_wp2_with fail
  refine HSI.out.mono ?_
  rintro e w1 ⟨hb1, rfl⟩
  have HX1 := Kept.mk (HX0.out.below hb1)
  have hbx := HX1.out.b2
  obtain ⟨c0, c1, c2, f0, f1, f2⟩ := three_cells hbx
  have hsz := HX1.out.l3
  have HE := Kept.mk (fun W' => rat_end (L := 0) (p := 0) (q := 1) (w := w) (s := false) (ao := none) (k := 0) (c := 0) (uo := none) (ku := 0) (cu := 0) hbx HX1.out.1 (by omega) rfl (Num.zero _ _) (by rw [if_pos rfl]; exact Num.zero _ _) W')
  clear hb1 hbx i3 i4 i5
  go_wp2
  have hE := HE.out _ rfl
  exact bodyPost_ret (v := .tuple #[rat0, .int .i64 6]) (by simp [results, Tryz.results76, go_sem, hE.2.2.1, hE.2.2.2.1, hE.2.2.2.2]) rfl ⟨hE.1, rfl⟩
set_option maxRecDepth 20000 in
set_option maxHeartbeats 20000000 in
theorem tallyFields_any (s t : ByteArray) (w : World) (hs : s.size ≤ 140737488355328) (ht : t.size ≤ 140737488355328) :
    Calls Tryz.prog 13 #[.string s, .string t] w (RetV w (.bool true)) := by
  have HW : Kept (Below w.heap.size w w) := ⟨Below.refl _ _⟩
  have hnot : ∀ (x : Bool) (w : World), (Op.unary .not (.bool x)).run Tryz.prog w = .ok (.bool (!x)) w := fun _ _ => rfl
  go_enter Tryz.func13, Tryz.ntmps13
  go_wp2_with fail
  refine (frac_any s _ hs).mono ?_
  rintro e w1 ⟨hb1, sa_1, ao_1, uo_1, ka_1, ca_1, ku_1, cu_1, s1_1, s2_1, o1_1, o2_1, k1_1, c1_1, k2_1, c2_1, ok1, rfl, hy1⟩
  replace HW := Kept.mk (HW.out.trans (Below.mono hb1 HW.out.size))
  have HY1 := Kept.mk hy1
  clear hb1 hy1
  have hal1 : Below w1.heap.size w1 ((w1.alloc (.cells #[.bool sa_1, .slice ao_1 ka_1 ca_1, .slice uo_1 ku_1 cu_1] 76)).alloc (.cells #[.bool s1_1, .slice o1_1 k1_1 c1_1, .bool s2_1, .slice o2_1 k2_1 c2_1] 72)) := ((Below.refl _ _).alloc (Nat.le_refl _) _).alloc (by simp) _
  replace HW := Kept.mk (HW.out.trans (Below.mono hal1 HW.out.size))
  have HBa1 : Kept (H3 ((w1.alloc (.cells #[.bool sa_1, .slice ao_1 ka_1 ca_1, .slice uo_1 ku_1 cu_1] 76)).alloc (.cells #[.bool s1_1, .slice o1_1 k1_1 c1_1, .bool s2_1, .slice o2_1 k2_1 c2_1] 72)) w1.heap.size (.bool sa_1) (.slice ao_1 ka_1 ca_1) (.slice uo_1 ku_1 cu_1)) := ⟨(H3.new _ _ _ _ _ rfl).below ((Below.refl _ _).alloc (Nat.le_refl _) _)⟩
  have HBx1 : Kept (H4 ((w1.alloc (.cells #[.bool sa_1, .slice ao_1 ka_1 ca_1, .slice uo_1 ku_1 cu_1] 76)).alloc (.cells #[.bool s1_1, .slice o1_1 k1_1 c1_1, .bool s2_1, .slice o2_1 k2_1 c2_1] 72)) (w1.heap.size + 1) (.bool s1_1) (.slice o1_1 k1_1 c1_1) (.bool s2_1) (.slice o2_1 k2_1 c2_1)) := ⟨H4.new _ _ _ _ _ _ (by simp)⟩
  have HAL1 := Kept.mk hal1
  clear hal1
  cases ok1
  · skip
    clear HBa1 HBx1 HY1 HAL1
    go_wp2_with fail
    refine (frac_any t _ ht).mono ?_
    rintro e w2 ⟨hb2, sa_2, ao_2, uo_2, ka_2, ca_2, ku_2, cu_2, s1_2, s2_2, o1_2, o2_2, k1_2, c1_2, k2_2, c2_2, ok2, rfl, hy2⟩
    replace HW := Kept.mk (HW.out.trans (Below.mono hb2 HW.out.size))
    have HY2 := Kept.mk hy2
    clear hb2 hy2
    have hal2 : Below w2.heap.size w2 ((w2.alloc (.cells #[.bool sa_2, .slice ao_2 ka_2 ca_2, .slice uo_2 ku_2 cu_2] 76)).alloc (.cells #[.bool s1_2, .slice o1_2 k1_2 c1_2, .bool s2_2, .slice o2_2 k2_2 c2_2] 72)) := ((Below.refl _ _).alloc (Nat.le_refl _) _).alloc (by simp) _
    replace HW := Kept.mk (HW.out.trans (Below.mono hal2 HW.out.size))
    have HBa2 : Kept (H3 ((w2.alloc (.cells #[.bool sa_2, .slice ao_2 ka_2 ca_2, .slice uo_2 ku_2 cu_2] 76)).alloc (.cells #[.bool s1_2, .slice o1_2 k1_2 c1_2, .bool s2_2, .slice o2_2 k2_2 c2_2] 72)) w2.heap.size (.bool sa_2) (.slice ao_2 ka_2 ca_2) (.slice uo_2 ku_2 cu_2)) := ⟨(H3.new _ _ _ _ _ rfl).below ((Below.refl _ _).alloc (Nat.le_refl _) _)⟩
    have HBx2 : Kept (H4 ((w2.alloc (.cells #[.bool sa_2, .slice ao_2 ka_2 ca_2, .slice uo_2 ku_2 cu_2] 76)).alloc (.cells #[.bool s1_2, .slice o1_2 k1_2 c1_2, .bool s2_2, .slice o2_2 k2_2 c2_2] 72)) (w2.heap.size + 1) (.bool s1_2) (.slice o1_2 k1_2 c1_2) (.bool s2_2) (.slice o2_2 k2_2 c2_2)) := ⟨H4.new _ _ _ _ _ _ (by simp)⟩
    have HAL2 := Kept.mk hal2
    clear hal2
    clear HBa2 HBx2 HY2 HAL2
    go_wp2_with fail
    refine (awake_any _).mono ?_
    rintro e w3 ⟨hb3, he3⟩
    subst he3
    replace HW := Kept.mk (HW.out.trans (Below.mono hb3 HW.out.size))
    clear hb3 
    go_wp2
    go_ret
    exact ⟨HW.out, rfl⟩
  · skip
    obtain ⟨P1, Q1, hz1, hlo1, hl1, hI1, hZ1⟩ := HY1.out rfl
    have hQ1p : 0 < Q1 := hlo1.1
    have HZ1 := Kept.mk hz1
    have HL1 := Kept.mk hl1
    have HLOQ1 := Kept.mk hlo1
    have HIa := Kept.mk (hI1.below HAL1.out)
    have HIx := Kept.mk (hZ1.below HAL1.out)
    have HBa := HBa1
    have HBx := HBx1
    clear hz1 hlo1 hl1 hI1 hZ1 HBa1 HBx1 HY1 HAL1
    go_wp2_with fail
    refine (frac_any t _ ht).mono ?_
    rintro e w2 ⟨hb2, sa_2, ao_2, uo_2, ka_2, ca_2, ku_2, cu_2, s1_2, s2_2, o1_2, o2_2, k1_2, c1_2, k2_2, c2_2, ok2, rfl, hy2⟩
    replace HBa := Kept.mk (HBa.out.below hb2)
    replace HIa := Kept.mk (HIa.out.below hb2)
    replace HBx := Kept.mk (HBx.out.below hb2)
    replace HIx := Kept.mk (HIx.out.below hb2)
    replace HW := Kept.mk (HW.out.trans (Below.mono hb2 HW.out.size))
    have HY2 := Kept.mk hy2
    clear hb2 hy2
    have hal2 : Below w2.heap.size w2 ((w2.alloc (.cells #[.bool sa_2, .slice ao_2 ka_2 ca_2, .slice uo_2 ku_2 cu_2] 76)).alloc (.cells #[.bool s1_2, .slice o1_2 k1_2 c1_2, .bool s2_2, .slice o2_2 k2_2 c2_2] 72)) := ((Below.refl _ _).alloc (Nat.le_refl _) _).alloc (by simp) _
    replace HBa := Kept.mk (HBa.out.below hal2)
    replace HIa := Kept.mk (HIa.out.below hal2)
    replace HBx := Kept.mk (HBx.out.below hal2)
    replace HIx := Kept.mk (HIx.out.below hal2)
    replace HW := Kept.mk (HW.out.trans (Below.mono hal2 HW.out.size))
    have HBa2 : Kept (H3 ((w2.alloc (.cells #[.bool sa_2, .slice ao_2 ka_2 ca_2, .slice uo_2 ku_2 cu_2] 76)).alloc (.cells #[.bool s1_2, .slice o1_2 k1_2 c1_2, .bool s2_2, .slice o2_2 k2_2 c2_2] 72)) w2.heap.size (.bool sa_2) (.slice ao_2 ka_2 ca_2) (.slice uo_2 ku_2 cu_2)) := ⟨(H3.new _ _ _ _ _ rfl).below ((Below.refl _ _).alloc (Nat.le_refl _) _)⟩
    have HBx2 : Kept (H4 ((w2.alloc (.cells #[.bool sa_2, .slice ao_2 ka_2 ca_2, .slice uo_2 ku_2 cu_2] 76)).alloc (.cells #[.bool s1_2, .slice o1_2 k1_2 c1_2, .bool s2_2, .slice o2_2 k2_2 c2_2] 72)) (w2.heap.size + 1) (.bool s1_2) (.slice o1_2 k1_2 c1_2) (.bool s2_2) (.slice o2_2 k2_2 c2_2)) := ⟨H4.new _ _ _ _ _ _ (by simp)⟩
    have HAL2 := Kept.mk hal2
    clear hal2
    cases ok2
    · skip
      clear HBa2 HBx2 HY2 HAL2
      go_wp2_with fail
      refine (awake_any _).mono ?_
      rintro e w3 ⟨hb3, he3⟩
      subst he3
      replace HBa := Kept.mk (HBa.out.below hb3)
      replace HIa := Kept.mk (HIa.out.below hb3)
      replace HBx := Kept.mk (HBx.out.below hb3)
      replace HIx := Kept.mk (HIx.out.below hb3)
      replace HW := Kept.mk (HW.out.trans (Below.mono hb3 HW.out.size))
      clear hb3 
      go_wp2
      go_ret
      exact ⟨HW.out, rfl⟩
    · skip
      obtain ⟨P2, Q2, hz2, hlo2, hl2, hI2, hZ2⟩ := HY2.out rfl
      have hQ2p : 0 < Q2 := hlo2.1
      have HZ2 := Kept.mk hz2
      have HL2 := Kept.mk hl2
      have HLOQ2 := Kept.mk hlo2
      have HIb := Kept.mk (hI2.below HAL2.out)
      have HIy := Kept.mk (hZ2.below HAL2.out)
      have HBb := HBa2
      have HBy := HBx2
      clear hz2 hlo2 hl2 hI2 hZ2 HBa2 HBx2 HY2 HAL2
      obtain ⟨hp1, hq1⟩ := decR_sz hQ1p (by rw [← HZ1.out]; exact HL1.out) (by decide)
      obtain ⟨hp2, hq2⟩ := decR_sz hQ2p (by rw [← HZ2.out]; exact HL2.out) (by decide)
      have hdd : Q1 * Q2 ≠ 0 := Int.mul_ne_zero (by omega) (by omega)
      have HSC := Kept.mk (smR_fr hdd ((hp1.mul hq2).add (hp2.mul hq1)) ((hq1.mul hq2).mono (by decide)) (by decide))
      have HSD := Kept.mk (smR_fr hdd ((hp1.mul hq2).sub (hp2.mul hq1)) ((hq1.mul hq2).mono (by decide)) (by decide))
      have HSM := Kept.mk (smR_fr hdd (hp1.mul hp2) (hq1.mul hq2) (by decide))
      have HSQ : Kept (P2 ≠ 0 → smR (frN (P1 * Q2) (Q1 * P2)) (frD (P1 * Q2) (Q1 * P2)) = true) := ⟨fun h => smR_fr (Int.mul_ne_zero (by omega) h) (hp1.mul hq2) (hq1.mul hp2) (by decide)⟩
      clear hp1 hq1 hp2 hq2
      have HDD0 := Kept.mk hdd
      obtain ⟨CN, hCN⟩ : ∃ x, frN (P1 * Q2 + P2 * Q1) (Q1 * Q2) = x := ⟨_, rfl⟩
      obtain ⟨CD, hCD⟩ : ∃ x, frD (P1 * Q2 + P2 * Q1) (Q1 * Q2) = x := ⟨_, rfl⟩
      have hCDp : 0 < CD := by rw [← hCD]; exact frD_pos hdd
      have HCN := Kept.mk hCN
      have HCD := Kept.mk hCD
      clear hCN hCD
      obtain ⟨DN, hDN⟩ : ∃ x, frN (P1 * Q2 - P2 * Q1) (Q1 * Q2) = x := ⟨_, rfl⟩
      obtain ⟨DD, hDD⟩ : ∃ x, frD (P1 * Q2 - P2 * Q1) (Q1 * Q2) = x := ⟨_, rfl⟩
      have hDDp : 0 < DD := by rw [← hDD]; exact frD_pos hdd
      have HDN := Kept.mk hDN
      have HDD := Kept.mk hDD
      clear hDN hDD
      obtain ⟨MN, hMN⟩ : ∃ x, frN (P1 * P2) (Q1 * Q2) = x := ⟨_, rfl⟩
      obtain ⟨MD, hMD⟩ : ∃ x, frD (P1 * P2) (Q1 * Q2) = x := ⟨_, rfl⟩
      have hMDp : 0 < MD := by rw [← hMD]; exact frD_pos hdd
      have HMN := Kept.mk hMN
      have HMD := Kept.mk hMD
      clear hMN hMD
      clear hdd
      obtain ⟨p4_0a, p4_1a, p4_2a, -⟩ := three_cells (HBa.out)
      obtain ⟨p5_0b, p5_1b, p5_2b, -⟩ := three_cells (HBb.out)
      go_wp2_with fail
      have hc3 := radd_any HIa.out HIb.out hQ1p hQ2p (by decide) (by decide) HSC.out
      rw [HCN.out, HCD.out] at hc3
      refine hc3.mono ?_
      clear hc3
      rintro e w3 ⟨hb3, v3, rfl, hR3⟩
      obtain ⟨s3, o3, k3, c3, u3, j3, d3, rfl, g1, g2, g3, g4⟩ := hR3.form
      clear g1 g2 g3 g4
      replace HBa := Kept.mk (HBa.out.below hb3)
      replace HIa := Kept.mk (HIa.out.below hb3)
      replace HBx := Kept.mk (HBx.out.below hb3)
      replace HIx := Kept.mk (HIx.out.below hb3)
      replace HBb := Kept.mk (HBb.out.below hb3)
      replace HIb := Kept.mk (HIb.out.below hb3)
      replace HBy := Kept.mk (HBy.out.below hb3)
      replace HIy := Kept.mk (HIy.out.below hb3)
      replace HW := Kept.mk (HW.out.trans (Below.mono hb3 HW.out.size))
      clear hb3 p4_0a p4_1a p4_2a p5_0b p5_1b p5_2b
      have hal6 : Below w3.heap.size w3 (w3.alloc (.cells #[.bool s3, .slice o3 k3 c3, .slice u3 j3 d3] 76)) := (Below.refl _ _).alloc (Nat.le_refl _) _
      replace HBa := Kept.mk (HBa.out.below hal6)
      replace HIa := Kept.mk (HIa.out.below hal6)
      replace HBx := Kept.mk (HBx.out.below hal6)
      replace HIx := Kept.mk (HIx.out.below hal6)
      replace HBb := Kept.mk (HBb.out.below hal6)
      replace HIb := Kept.mk (HIb.out.below hal6)
      replace HBy := Kept.mk (HBy.out.below hal6)
      replace HIy := Kept.mk (HIy.out.below hal6)
      replace HW := Kept.mk (HW.out.trans (Below.mono hal6 HW.out.size))
      have HBc : Kept (H3 (w3.alloc (.cells #[.bool s3, .slice o3 k3 c3, .slice u3 j3 d3] 76)) w3.heap.size (.bool s3) (.slice o3 k3 c3) (.slice u3 j3 d3)) := ⟨H3.new _ _ _ _ _ rfl⟩
      have HIc : Kept (RatV 82002 (w3.alloc (.cells #[.bool s3, .slice o3 k3 c3, .slice u3 j3 d3] 76)) (.agg #[.bool s3, .slice o3 k3 c3, .slice u3 j3 d3]) (CN) (CD)) := ⟨hR3.below hal6⟩
      clear hal6 hR3
      obtain ⟨p8_0a, p8_1a, p8_2a, -⟩ := three_cells (HBa.out)
      obtain ⟨p9_0b, p9_1b, p9_2b, -⟩ := three_cells (HBb.out)
      go_wp2_with fail
      have hc7 := rsubq_any HIa.out HIb.out hQ1p hQ2p (by decide) (by decide) HSD.out
      rw [HDN.out, HDD.out] at hc7
      refine hc7.mono ?_
      clear hc7
      rintro e w7 ⟨hb7, v7, rfl, hR7⟩
      obtain ⟨s7, o7, k7, c7, u7, j7, d7, rfl, g1, g2, g3, g4⟩ := hR7.form
      clear g1 g2 g3 g4
      replace HBa := Kept.mk (HBa.out.below hb7)
      replace HIa := Kept.mk (HIa.out.below hb7)
      replace HBx := Kept.mk (HBx.out.below hb7)
      replace HIx := Kept.mk (HIx.out.below hb7)
      replace HBb := Kept.mk (HBb.out.below hb7)
      replace HIb := Kept.mk (HIb.out.below hb7)
      replace HBy := Kept.mk (HBy.out.below hb7)
      replace HIy := Kept.mk (HIy.out.below hb7)
      replace HBc := Kept.mk (HBc.out.below hb7)
      replace HIc := Kept.mk (HIc.out.below hb7)
      replace HW := Kept.mk (HW.out.trans (Below.mono hb7 HW.out.size))
      clear hb7 p8_0a p8_1a p8_2a p9_0b p9_1b p9_2b
      have hal10 : Below w7.heap.size w7 (w7.alloc (.cells #[.bool s7, .slice o7 k7 c7, .slice u7 j7 d7] 76)) := (Below.refl _ _).alloc (Nat.le_refl _) _
      replace HBa := Kept.mk (HBa.out.below hal10)
      replace HIa := Kept.mk (HIa.out.below hal10)
      replace HBx := Kept.mk (HBx.out.below hal10)
      replace HIx := Kept.mk (HIx.out.below hal10)
      replace HBb := Kept.mk (HBb.out.below hal10)
      replace HIb := Kept.mk (HIb.out.below hal10)
      replace HBy := Kept.mk (HBy.out.below hal10)
      replace HIy := Kept.mk (HIy.out.below hal10)
      replace HBc := Kept.mk (HBc.out.below hal10)
      replace HIc := Kept.mk (HIc.out.below hal10)
      replace HW := Kept.mk (HW.out.trans (Below.mono hal10 HW.out.size))
      have HBd : Kept (H3 (w7.alloc (.cells #[.bool s7, .slice o7 k7 c7, .slice u7 j7 d7] 76)) w7.heap.size (.bool s7) (.slice o7 k7 c7) (.slice u7 j7 d7)) := ⟨H3.new _ _ _ _ _ rfl⟩
      have HId : Kept (RatV 82002 (w7.alloc (.cells #[.bool s7, .slice o7 k7 c7, .slice u7 j7 d7] 76)) (.agg #[.bool s7, .slice o7 k7 c7, .slice u7 j7 d7]) (DN) (DD)) := ⟨hR7.below hal10⟩
      clear hal10 hR7
      obtain ⟨p12_0a, p12_1a, p12_2a, -⟩ := three_cells (HBa.out)
      obtain ⟨p13_0b, p13_1b, p13_2b, -⟩ := three_cells (HBb.out)
      go_wp2_with fail
      have hc11 := rmul_any HIa.out HIb.out hQ1p hQ2p (by decide) (by decide) HSM.out
      rw [HMN.out, HMD.out] at hc11
      refine hc11.mono ?_
      clear hc11
      rintro e w11 ⟨hb11, v11, rfl, hR11⟩
      obtain ⟨s11, o11, k11, c11, u11, j11, d11, rfl, g1, g2, g3, g4⟩ := hR11.form
      clear g1 g2 g3 g4
      replace HBa := Kept.mk (HBa.out.below hb11)
      replace HIa := Kept.mk (HIa.out.below hb11)
      replace HBx := Kept.mk (HBx.out.below hb11)
      replace HIx := Kept.mk (HIx.out.below hb11)
      replace HBb := Kept.mk (HBb.out.below hb11)
      replace HIb := Kept.mk (HIb.out.below hb11)
      replace HBy := Kept.mk (HBy.out.below hb11)
      replace HIy := Kept.mk (HIy.out.below hb11)
      replace HBc := Kept.mk (HBc.out.below hb11)
      replace HIc := Kept.mk (HIc.out.below hb11)
      replace HBd := Kept.mk (HBd.out.below hb11)
      replace HId := Kept.mk (HId.out.below hb11)
      replace HW := Kept.mk (HW.out.trans (Below.mono hb11 HW.out.size))
      clear hb11 p12_0a p12_1a p12_2a p13_0b p13_1b p13_2b
      have hal14 : Below w11.heap.size w11 (w11.alloc (.cells #[.bool s11, .slice o11 k11 c11, .slice u11 j11 d11] 76)) := (Below.refl _ _).alloc (Nat.le_refl _) _
      replace HBa := Kept.mk (HBa.out.below hal14)
      replace HIa := Kept.mk (HIa.out.below hal14)
      replace HBx := Kept.mk (HBx.out.below hal14)
      replace HIx := Kept.mk (HIx.out.below hal14)
      replace HBb := Kept.mk (HBb.out.below hal14)
      replace HIb := Kept.mk (HIb.out.below hal14)
      replace HBy := Kept.mk (HBy.out.below hal14)
      replace HIy := Kept.mk (HIy.out.below hal14)
      replace HBc := Kept.mk (HBc.out.below hal14)
      replace HIc := Kept.mk (HIc.out.below hal14)
      replace HBd := Kept.mk (HBd.out.below hal14)
      replace HId := Kept.mk (HId.out.below hal14)
      replace HW := Kept.mk (HW.out.trans (Below.mono hal14 HW.out.size))
      have HBm : Kept (H3 (w11.alloc (.cells #[.bool s11, .slice o11 k11 c11, .slice u11 j11 d11] 76)) w11.heap.size (.bool s11) (.slice o11 k11 c11) (.slice u11 j11 d11)) := ⟨H3.new _ _ _ _ _ rfl⟩
      have HIm : Kept (RatV 82002 (w11.alloc (.cells #[.bool s11, .slice o11 k11 c11, .slice u11 j11 d11] 76)) (.agg #[.bool s11, .slice o11 k11 c11, .slice u11 j11 d11]) (MN) (MD)) := ⟨hR11.below hal14⟩
      clear hal14 hR11
      go_wp2_with fail
      generalize w11.alloc (.cells #[.bool s11, .slice o11 k11 c11, .slice u11 j11 d11] 76) = ws at *
      have HPL : Kept (∀ W, Below ws.heap.size ws W → Calls Tryz.prog 72 #[(.agg #[.bool s1_1, .slice o1_1 k1_1 c1_1, .bool s2_1, .slice o2_1 k2_1 c2_1]), (.agg #[.bool s1_2, .slice o1_2 k1_2 c1_2, .bool s2_2, .slice o2_2 k2_2 c2_2])] W (RetQ 929 W CN CD)) := ⟨fun W h => by have hc := rplus_any (HIx.out.below h) (HIy.out.below h) HDD0.out (by decide); rw [HCN.out, HCD.out] at hc; exact hc⟩
      have HEc : Kept (∀ W u, Below ws.heap.size ws W → QV 929 W u CN CD → Calls Tryz.prog 61 #[(.agg #[.bool s3, .slice o3 k3 c3, .slice u3 j3 d3]), u] W (RetV W (.bool true))) := ⟨fun W u h hu => requal_any (HIc.out.below h) hu hCDp (by decide) (by decide)⟩
      have HMI : Kept (∀ W, Below ws.heap.size ws W → Calls Tryz.prog 63 #[(.agg #[.bool s1_1, .slice o1_1 k1_1 c1_1, .bool s2_1, .slice o2_1 k2_1 c2_1]), (.agg #[.bool s1_2, .slice o1_2 k1_2 c1_2, .bool s2_2, .slice o2_2 k2_2 c2_2])] W (RetQ 929 W DN DD)) := ⟨fun W h => by have hc := rminus_any (HIx.out.below h) (HIy.out.below h) HDD0.out (by decide); rw [HDN.out, HDD.out] at hc; exact hc⟩
      have HEd : Kept (∀ W u, Below ws.heap.size ws W → QV 929 W u DN DD → Calls Tryz.prog 61 #[(.agg #[.bool s7, .slice o7 k7 c7, .slice u7 j7 d7]), u] W (RetV W (.bool true))) := ⟨fun W u h hu => requal_any (HId.out.below h) hu hDDp (by decide) (by decide)⟩
      have HTI : Kept (∀ W, Below ws.heap.size ws W → Calls Tryz.prog 73 #[(.agg #[.bool s1_1, .slice o1_1 k1_1 c1_1, .bool s2_1, .slice o2_1 k2_1 c2_1]), (.agg #[.bool s1_2, .slice o1_2 k1_2 c1_2, .bool s2_2, .slice o2_2 k2_2 c2_2])] W (RetQ 929 W MN MD)) := ⟨fun W h => by have hc := rtimesq_any (HIx.out.below h) (HIy.out.below h) HDD0.out (by decide); rw [HMN.out, HMD.out] at hc; exact hc⟩
      have HEm : Kept (∀ W u, Below ws.heap.size ws W → QV 929 W u MN MD → Calls Tryz.prog 61 #[(.agg #[.bool s11, .slice o11 k11 c11, .slice u11 j11 d11]), u] W (RetV W (.bool true))) := ⟨fun W u h hu => requal_any (HIm.out.below h) hu hMDp (by decide) (by decide)⟩
      obtain ⟨σ, hσ⟩ : ∃ σ, Dg.sg (P1 * Q2) (P2 * Q1) = σ := ⟨_, rfl⟩
      have hss : (σ != σ) = false := by simp
      have HSG := Kept.mk hσ
      clear hσ
      have HCA : Kept (∀ W, Below ws.heap.size ws W → Calls Tryz.prog 74 #[(.agg #[.bool sa_1, .slice ao_1 ka_1 ca_1, .slice uo_1 ku_1 cu_1]), (.agg #[.bool sa_2, .slice ao_2 ka_2 ca_2, .slice uo_2 ku_2 cu_2])] W (RetV W (.int .i64 σ))) := ⟨fun W h => by have hc := rcmp_any (HIa.out.below h) (HIb.out.below h) hQ1p hQ2p (by decide) (by decide); rw [HSG.out] at hc; exact hc⟩
      have HCQ : Kept (∀ W, Below ws.heap.size ws W → Calls Tryz.prog 75 #[(.agg #[.bool s1_1, .slice o1_1 k1_1 c1_1, .bool s2_1, .slice o2_1 k2_1 c2_1]), (.agg #[.bool s1_2, .slice o1_2 k1_2 c1_2, .bool s2_2, .slice o2_2 k2_2 c2_2])] W (RetV W (.int .i64 σ))) := ⟨fun W h => by have hc := rcompare_any (HIx.out.below h) (HIy.out.below h) (by decide); rw [HSG.out] at hc; exact hc⟩
      obtain ⟨ii0a, ii1a, ii2a, -⟩ := three_cells (HBa.out)
      obtain ⟨ii0b, ii1b, ii2b, -⟩ := three_cells (HBb.out)
      obtain ⟨ii0c, ii1c, ii2c, -⟩ := three_cells (HBc.out)
      obtain ⟨ii0d, ii1d, ii2d, -⟩ := three_cells (HBd.out)
      obtain ⟨ii0m, ii1m, ii2m, -⟩ := three_cells (HBm.out)
      obtain ⟨ii0x, ii1x, ii2x, ii3x, -⟩ := four_cells (HBx.out)
      obtain ⟨ii0y, ii1y, ii2y, ii3y, -⟩ := four_cells (HBy.out)
      refine wp_region_held_drew (S := fun w' => w'.cell? ⟨w1.heap.size, 0, none⟩ = some (.bool sa_1) ∧ w'.cell? ⟨w1.heap.size, 1, none⟩ = some (.slice ao_1 ka_1 ca_1) ∧ w'.cell? ⟨w1.heap.size, 2, none⟩ = some (.slice uo_1 ku_1 cu_1) ∧ w'.cell? ⟨w2.heap.size, 0, none⟩ = some (.bool sa_2) ∧ w'.cell? ⟨w2.heap.size, 1, none⟩ = some (.slice ao_2 ka_2 ca_2) ∧ w'.cell? ⟨w2.heap.size, 2, none⟩ = some (.slice uo_2 ku_2 cu_2) ∧ w'.cell? ⟨w3.heap.size, 0, none⟩ = some (.bool s3) ∧ w'.cell? ⟨w3.heap.size, 1, none⟩ = some (.slice o3 k3 c3) ∧ w'.cell? ⟨w3.heap.size, 2, none⟩ = some (.slice u3 j3 d3) ∧ w'.cell? ⟨w7.heap.size, 0, none⟩ = some (.bool s7) ∧ w'.cell? ⟨w7.heap.size, 1, none⟩ = some (.slice o7 k7 c7) ∧ w'.cell? ⟨w7.heap.size, 2, none⟩ = some (.slice u7 j7 d7) ∧ w'.cell? ⟨w11.heap.size, 0, none⟩ = some (.bool s11) ∧ w'.cell? ⟨w11.heap.size, 1, none⟩ = some (.slice o11 k11 c11) ∧ w'.cell? ⟨w11.heap.size, 2, none⟩ = some (.slice u11 j11 d11) ∧ w'.cell? ⟨(w1.heap.size + 1), 0, none⟩ = some (.bool s1_1) ∧ w'.cell? ⟨(w1.heap.size + 1), 1, none⟩ = some (.slice o1_1 k1_1 c1_1) ∧ w'.cell? ⟨(w1.heap.size + 1), 2, none⟩ = some (.bool s2_1) ∧ w'.cell? ⟨(w1.heap.size + 1), 3, none⟩ = some (.slice o2_1 k2_1 c2_1) ∧ w'.cell? ⟨(w2.heap.size + 1), 0, none⟩ = some (.bool s1_2) ∧ w'.cell? ⟨(w2.heap.size + 1), 1, none⟩ = some (.slice o1_2 k1_2 c1_2) ∧ w'.cell? ⟨(w2.heap.size + 1), 2, none⟩ = some (.bool s2_2) ∧ w'.cell? ⟨(w2.heap.size + 1), 3, none⟩ = some (.slice o2_2 k2_2 c2_2)) (by kernel_rfl) ?_ (fun hHeld => ?_)
      · exact ⟨ii0a, ii1a, ii2a, ii0b, ii1b, ii2b, ii0c, ii1c, ii2c, ii0d, ii1d, ii2d, ii0m, ii1m, ii2m, ii0x, ii1x, ii2x, ii3x, ii0y, ii1y, ii2y, ii3y⟩
      refine wpAnyH_take (i := 0) (v := ?_) rfl (by kernel_rfl) (by kernel_rfl) (by kernel_rfl) (fun _ _ _ h => h) (Or.inl ⟨by rfl, ?_⟩) (by assumption) ?_
      rotate_left
      · (intro w hSw; (try dsimp only at hSw); go_simp; (try with_reducible rfl))
      try simp only [Act.put, List.getElem_toArray, List.getElem_cons_succ, List.getElem_cons_zero, List.setIfInBounds_toArray, List.set_cons_zero, List.set_cons_succ]
      refine wpAnyH_take (i := 1) (v := ?_) rfl (by kernel_rfl) (by kernel_rfl) (by kernel_rfl) (fun _ _ _ h => h) (Or.inl ⟨by rfl, ?_⟩) (by assumption) ?_
      rotate_left
      · (intro w hSw; (try dsimp only at hSw); go_simp; (try with_reducible rfl))
      try simp only [Act.put, List.getElem_toArray, List.getElem_cons_succ, List.getElem_cons_zero, List.setIfInBounds_toArray, List.set_cons_zero, List.set_cons_succ]
      refine wpAnyH_take (i := 2) (v := ?_) rfl (by kernel_rfl) (by kernel_rfl) (by kernel_rfl) (fun _ _ _ h => h) (Or.inl ⟨by rfl, ?_⟩) (by assumption) ?_
      rotate_left
      · (intro w hSw; (try dsimp only at hSw); go_simp; (try with_reducible rfl))
      try simp only [Act.put, List.getElem_toArray, List.getElem_cons_succ, List.getElem_cons_zero, List.setIfInBounds_toArray, List.set_cons_zero, List.set_cons_succ]
      refine wpAnyH_take (i := 3) (v := ?_) rfl (by kernel_rfl) (by kernel_rfl) (by kernel_rfl) (fun _ _ _ h => h) (Or.inl ⟨by rfl, ?_⟩) (by assumption) ?_
      rotate_left
      · (intro w hSw; (try dsimp only at hSw); go_simp; (try with_reducible rfl))
      try simp only [Act.put, List.getElem_toArray, List.getElem_cons_succ, List.getElem_cons_zero, List.setIfInBounds_toArray, List.set_cons_zero, List.set_cons_succ]
      refine wpAnyH_take (i := 4) (v := ?_) rfl (by kernel_rfl) (by kernel_rfl) (by kernel_rfl) (fun _ _ _ h => h) (Or.inl ⟨by rfl, ?_⟩) (by assumption) ?_
      rotate_left
      · (intro w hSw; (try dsimp only at hSw); go_simp; (try with_reducible rfl))
      try simp only [Act.put, List.getElem_toArray, List.getElem_cons_succ, List.getElem_cons_zero, List.setIfInBounds_toArray, List.set_cons_zero, List.set_cons_succ]
      refine wpAnyH_take (i := 5) (v := ?_) rfl (by kernel_rfl) (by kernel_rfl) (by kernel_rfl) (fun _ _ _ h => h) (Or.inl ⟨by rfl, ?_⟩) (by assumption) ?_
      rotate_left
      · (intro w hSw; (try dsimp only at hSw); go_simp; (try with_reducible rfl))
      try simp only [Act.put, List.getElem_toArray, List.getElem_cons_succ, List.getElem_cons_zero, List.setIfInBounds_toArray, List.set_cons_zero, List.set_cons_succ]
      refine wpAnyH_take (i := 6) (v := ?_) rfl (by kernel_rfl) (by kernel_rfl) (by kernel_rfl) (fun _ _ _ h => h) (Or.inl ⟨by rfl, ?_⟩) (by assumption) ?_
      rotate_left
      · (intro w hSw; (try dsimp only at hSw); go_simp; (try with_reducible rfl))
      try simp only [Act.put, List.getElem_toArray, List.getElem_cons_succ, List.getElem_cons_zero, List.setIfInBounds_toArray, List.set_cons_zero, List.set_cons_succ]
      refine wpAnyH_take (i := 7) (v := ?_) rfl (by kernel_rfl) (by kernel_rfl) (by kernel_rfl) (fun _ _ _ h => h) (Or.inl ⟨by rfl, ?_⟩) (by assumption) ?_
      rotate_left
      · (intro w hSw; (try dsimp only at hSw); go_simp; (try with_reducible rfl))
      try simp only [Act.put, List.getElem_toArray, List.getElem_cons_succ, List.getElem_cons_zero, List.setIfInBounds_toArray, List.set_cons_zero, List.set_cons_succ]
      refine wpAnyH_take (i := 8) (v := ?_) rfl (by kernel_rfl) (by kernel_rfl) (by kernel_rfl) (fun _ _ _ h => h) (Or.inl ⟨by rfl, ?_⟩) (by assumption) ?_
      rotate_left
      · (intro w hSw; (try dsimp only at hSw); go_simp; (try with_reducible rfl))
      try simp only [Act.put, List.getElem_toArray, List.getElem_cons_succ, List.getElem_cons_zero, List.setIfInBounds_toArray, List.set_cons_zero, List.set_cons_succ]
      refine wpAnyH_take (i := 9) (v := ?_) rfl (by kernel_rfl) (by kernel_rfl) (by kernel_rfl) (fun _ _ _ h => h) (Or.inl ⟨by rfl, ?_⟩) (by assumption) ?_
      rotate_left
      · (intro w hSw; (try dsimp only at hSw); go_simp; (try with_reducible rfl))
      try simp only [Act.put, List.getElem_toArray, List.getElem_cons_succ, List.getElem_cons_zero, List.setIfInBounds_toArray, List.set_cons_zero, List.set_cons_succ]
      refine wpAnyH_take (i := 10) (v := ?_) rfl (by kernel_rfl) (by kernel_rfl) (by kernel_rfl) (fun _ _ _ h => h) (Or.inl ⟨by rfl, ?_⟩) (by assumption) ?_
      rotate_left
      · (intro w hSw; (try dsimp only at hSw); go_simp; (try with_reducible rfl))
      try simp only [Act.put, List.getElem_toArray, List.getElem_cons_succ, List.getElem_cons_zero, List.setIfInBounds_toArray, List.set_cons_zero, List.set_cons_succ]
      refine wpAnyH_take (i := 11) (v := ?_) rfl (by kernel_rfl) (by kernel_rfl) (by kernel_rfl) (fun _ _ _ h => h) (Or.inl ⟨by rfl, ?_⟩) (by assumption) ?_
      rotate_left
      · (intro w hSw; (try dsimp only at hSw); go_simp; (try with_reducible rfl))
      try simp only [Act.put, List.getElem_toArray, List.getElem_cons_succ, List.getElem_cons_zero, List.setIfInBounds_toArray, List.set_cons_zero, List.set_cons_succ]
      refine wpAnyH_take (i := 12) (v := ?_) rfl (by kernel_rfl) (by kernel_rfl) (by kernel_rfl) (fun _ _ _ h => h) (Or.inl ⟨by rfl, ?_⟩) (by assumption) ?_
      rotate_left
      · (intro w hSw; (try dsimp only at hSw); go_simp; (try with_reducible rfl))
      try simp only [Act.put, List.getElem_toArray, List.getElem_cons_succ, List.getElem_cons_zero, List.setIfInBounds_toArray, List.set_cons_zero, List.set_cons_succ]
      refine wpAnyH_take (i := 13) (v := ?_) rfl (by kernel_rfl) (by kernel_rfl) (by kernel_rfl) (fun _ _ _ h => h) (Or.inl ⟨by rfl, ?_⟩) (by assumption) ?_
      rotate_left
      · (intro w hSw; (try dsimp only at hSw); go_simp; (try with_reducible rfl))
      try simp only [Act.put, List.getElem_toArray, List.getElem_cons_succ, List.getElem_cons_zero, List.setIfInBounds_toArray, List.set_cons_zero, List.set_cons_succ]
      refine wpAnyH_ready (rs := [14]) (by kernel_rfl) (by simp) ?_
      refine AllReadyH.cons rfl (fun K hK => ?_) AllReadyH.nil
      go_simp
      refine (HPL.out _ ?h1).mono ?_
      case h1 => exact ((Bxs.start ws).drew).1
      rintro e wA1' ⟨hbA1, v1', rfl, hV1⟩
      have hyA1 := Bxs.below ((Bxs.start ws).drew) hbA1
      obtain ⟨ja0a, ja1a, ja2a, -⟩ := three_cells (HBa.out.below hyA1.1)
      obtain ⟨ja0b, ja1b, ja2b, -⟩ := three_cells (HBb.out.below hyA1.1)
      obtain ⟨ja0c, ja1c, ja2c, -⟩ := three_cells (HBc.out.below hyA1.1)
      obtain ⟨ja0d, ja1d, ja2d, -⟩ := three_cells (HBd.out.below hyA1.1)
      obtain ⟨ja0m, ja1m, ja2m, -⟩ := three_cells (HBm.out.below hyA1.1)
      obtain ⟨ja0x, ja1x, ja2x, ja3x, -⟩ := four_cells (HBx.out.below hyA1.1)
      obtain ⟨ja0y, ja1y, ja2y, ja3y, -⟩ := four_cells (HBy.out.below hyA1.1)
      refine hK.out _ _ ?_ (fun hHeld => ?_)
      · exact ⟨ja0a, ja1a, ja2a, ja0b, ja1b, ja2b, ja0c, ja1c, ja2c, ja0d, ja1d, ja2d, ja0m, ja1m, ja2m, ja0x, ja1x, ja2x, ja3x, ja0y, ja1y, ja2y, ja3y⟩
      clear hK K
      try simp only [Act.put, List.getElem_toArray, List.getElem_cons_succ, List.getElem_cons_zero, List.setIfInBounds_toArray, List.set_cons_zero, List.set_cons_succ]
      refine wpAnyH_ready (rs := [15]) (by kernel_rfl) (by simp) ?_
      refine AllReadyH.cons rfl (fun K hK => ?_) AllReadyH.nil
      go_simp
      refine (HEc.out _ _ ?h1 ?h2).mono ?_
      case h1 => exact hyA1.1
      case h2 => exact hV1
      rintro e wA2' ⟨hbA2, rfl⟩
      have hyA2 := Bxs.below hyA1 hbA2
      obtain ⟨jb0a, jb1a, jb2a, -⟩ := three_cells (HBa.out.below hyA2.1)
      obtain ⟨jb0b, jb1b, jb2b, -⟩ := three_cells (HBb.out.below hyA2.1)
      obtain ⟨jb0c, jb1c, jb2c, -⟩ := three_cells (HBc.out.below hyA2.1)
      obtain ⟨jb0d, jb1d, jb2d, -⟩ := three_cells (HBd.out.below hyA2.1)
      obtain ⟨jb0m, jb1m, jb2m, -⟩ := three_cells (HBm.out.below hyA2.1)
      obtain ⟨jb0x, jb1x, jb2x, jb3x, -⟩ := four_cells (HBx.out.below hyA2.1)
      obtain ⟨jb0y, jb1y, jb2y, jb3y, -⟩ := four_cells (HBy.out.below hyA2.1)
      refine hK.out _ _ ?_ (fun hHeld => ?_)
      · exact ⟨jb0a, jb1a, jb2a, jb0b, jb1b, jb2b, jb0c, jb1c, jb2c, jb0d, jb1d, jb2d, jb0m, jb1m, jb2m, jb0x, jb1x, jb2x, jb3x, jb0y, jb1y, jb2y, jb3y⟩
      clear hK K
      try simp only [Act.put, List.getElem_toArray, List.getElem_cons_succ, List.getElem_cons_zero, List.setIfInBounds_toArray, List.set_cons_zero, List.set_cons_succ]
      refine wpAnyH_take (i := 16) (v := ?_) rfl (by kernel_rfl) (by kernel_rfl) (by kernel_rfl) (fun _ _ _ h => h) (Or.inl ⟨by rfl, ?_⟩) (by assumption) ?_
      rotate_left
      · (intro w hSw; (try dsimp only at hSw); go_simp; (try with_reducible rfl))
      try simp only [Act.put, List.getElem_toArray, List.getElem_cons_succ, List.getElem_cons_zero, List.setIfInBounds_toArray, List.set_cons_zero, List.set_cons_succ]
      refine wpAnyH_take (i := 17) (v := ?_) rfl (by kernel_rfl) (by kernel_rfl) (by kernel_rfl) (fun _ _ _ h => h) (Or.inl ⟨by rfl, ?_⟩) (by assumption) ?_
      rotate_left
      · (intro w hSw; (try dsimp only at hSw); go_simp; (try with_reducible rfl))
      try simp only [Act.put, List.getElem_toArray, List.getElem_cons_succ, List.getElem_cons_zero, List.setIfInBounds_toArray, List.set_cons_zero, List.set_cons_succ]
      refine wpAnyH_take (i := 18) (v := ?_) rfl (by kernel_rfl) (by kernel_rfl) (by kernel_rfl) (fun _ _ _ h => h) (Or.inl ⟨by rfl, ?_⟩) (by assumption) ?_
      rotate_left
      · (intro w hSw; (try dsimp only at hSw); go_simp; (try with_reducible rfl))
      try simp only [Act.put, List.getElem_toArray, List.getElem_cons_succ, List.getElem_cons_zero, List.setIfInBounds_toArray, List.set_cons_zero, List.set_cons_succ]
      refine wpAnyH_take (i := 19) (v := ?_) rfl (by kernel_rfl) (by kernel_rfl) (by kernel_rfl) (fun _ _ _ h => h) (Or.inl ⟨by rfl, ?_⟩) (by assumption) ?_
      rotate_left
      · (intro w hSw; (try dsimp only at hSw); go_simp; (try with_reducible rfl))
      try simp only [Act.put, List.getElem_toArray, List.getElem_cons_succ, List.getElem_cons_zero, List.setIfInBounds_toArray, List.set_cons_zero, List.set_cons_succ]
      refine wpAnyH_take (i := 20) (v := ?_) rfl (by kernel_rfl) (by kernel_rfl) (by kernel_rfl) (fun _ _ _ h => h) (Or.inl ⟨by rfl, ?_⟩) (by assumption) ?_
      rotate_left
      · (intro w hSw; (try dsimp only at hSw); go_simp; (try with_reducible rfl))
      try simp only [Act.put, List.getElem_toArray, List.getElem_cons_succ, List.getElem_cons_zero, List.setIfInBounds_toArray, List.set_cons_zero, List.set_cons_succ]
      refine wpAnyH_take (i := 21) (v := ?_) rfl (by kernel_rfl) (by kernel_rfl) (by kernel_rfl) (fun _ _ _ h => h) (Or.inl ⟨by rfl, ?_⟩) (by assumption) ?_
      rotate_left
      · (intro w hSw; (try dsimp only at hSw); go_simp; (try with_reducible rfl))
      try simp only [Act.put, List.getElem_toArray, List.getElem_cons_succ, List.getElem_cons_zero, List.setIfInBounds_toArray, List.set_cons_zero, List.set_cons_succ]
      refine wpAnyH_ready (rs := [22]) (by kernel_rfl) (by simp) ?_
      refine AllReadyH.cons rfl (fun K hK => ?_) AllReadyH.nil
      go_simp
      refine (HMI.out _ ?h1).mono ?_
      case h1 => exact hyA2.1
      rintro e wA3' ⟨hbA3, v3', rfl, hV3⟩
      have hyA3 := Bxs.below hyA2 hbA3
      obtain ⟨jc0a, jc1a, jc2a, -⟩ := three_cells (HBa.out.below hyA3.1)
      obtain ⟨jc0b, jc1b, jc2b, -⟩ := three_cells (HBb.out.below hyA3.1)
      obtain ⟨jc0c, jc1c, jc2c, -⟩ := three_cells (HBc.out.below hyA3.1)
      obtain ⟨jc0d, jc1d, jc2d, -⟩ := three_cells (HBd.out.below hyA3.1)
      obtain ⟨jc0m, jc1m, jc2m, -⟩ := three_cells (HBm.out.below hyA3.1)
      obtain ⟨jc0x, jc1x, jc2x, jc3x, -⟩ := four_cells (HBx.out.below hyA3.1)
      obtain ⟨jc0y, jc1y, jc2y, jc3y, -⟩ := four_cells (HBy.out.below hyA3.1)
      refine hK.out _ _ ?_ (fun hHeld => ?_)
      · exact ⟨jc0a, jc1a, jc2a, jc0b, jc1b, jc2b, jc0c, jc1c, jc2c, jc0d, jc1d, jc2d, jc0m, jc1m, jc2m, jc0x, jc1x, jc2x, jc3x, jc0y, jc1y, jc2y, jc3y⟩
      clear hK K
      try simp only [Act.put, List.getElem_toArray, List.getElem_cons_succ, List.getElem_cons_zero, List.setIfInBounds_toArray, List.set_cons_zero, List.set_cons_succ]
      refine wpAnyH_ready (rs := [23]) (by kernel_rfl) (by simp) ?_
      refine AllReadyH.cons rfl (fun K hK => ?_) AllReadyH.nil
      go_simp
      refine (HEd.out _ _ ?h1 ?h2).mono ?_
      case h1 => exact hyA3.1
      case h2 => exact hV3
      rintro e wA4' ⟨hbA4, rfl⟩
      have hyA4 := Bxs.below hyA3 hbA4
      obtain ⟨jd0a, jd1a, jd2a, -⟩ := three_cells (HBa.out.below hyA4.1)
      obtain ⟨jd0b, jd1b, jd2b, -⟩ := three_cells (HBb.out.below hyA4.1)
      obtain ⟨jd0c, jd1c, jd2c, -⟩ := three_cells (HBc.out.below hyA4.1)
      obtain ⟨jd0d, jd1d, jd2d, -⟩ := three_cells (HBd.out.below hyA4.1)
      obtain ⟨jd0m, jd1m, jd2m, -⟩ := three_cells (HBm.out.below hyA4.1)
      obtain ⟨jd0x, jd1x, jd2x, jd3x, -⟩ := four_cells (HBx.out.below hyA4.1)
      obtain ⟨jd0y, jd1y, jd2y, jd3y, -⟩ := four_cells (HBy.out.below hyA4.1)
      refine hK.out _ _ ?_ (fun hHeld => ?_)
      · exact ⟨jd0a, jd1a, jd2a, jd0b, jd1b, jd2b, jd0c, jd1c, jd2c, jd0d, jd1d, jd2d, jd0m, jd1m, jd2m, jd0x, jd1x, jd2x, jd3x, jd0y, jd1y, jd2y, jd3y⟩
      clear hK K
      try simp only [Act.put, List.getElem_toArray, List.getElem_cons_succ, List.getElem_cons_zero, List.setIfInBounds_toArray, List.set_cons_zero, List.set_cons_succ]
      refine wpAnyH_take (i := 24) (v := ?_) rfl (by kernel_rfl) (by kernel_rfl) (by kernel_rfl) (fun _ _ _ h => h) (Or.inl ⟨by rfl, ?_⟩) (by assumption) ?_
      rotate_left
      · (intro w hSw; (try dsimp only at hSw); go_simp; (try with_reducible rfl))
      try simp only [Act.put, List.getElem_toArray, List.getElem_cons_succ, List.getElem_cons_zero, List.setIfInBounds_toArray, List.set_cons_zero, List.set_cons_succ]
      refine wpAnyH_take (i := 25) (v := ?_) rfl (by kernel_rfl) (by kernel_rfl) (by kernel_rfl) (fun _ _ _ h => h) (Or.inl ⟨by rfl, ?_⟩) (by assumption) ?_
      rotate_left
      · (intro w hSw; (try dsimp only at hSw); go_simp; (try with_reducible rfl))
      try simp only [Act.put, List.getElem_toArray, List.getElem_cons_succ, List.getElem_cons_zero, List.setIfInBounds_toArray, List.set_cons_zero, List.set_cons_succ]
      refine wpAnyH_take (i := 26) (v := ?_) rfl (by kernel_rfl) (by kernel_rfl) (by kernel_rfl) (fun _ _ _ h => h) (Or.inl ⟨by rfl, ?_⟩) (by assumption) ?_
      rotate_left
      · (intro w hSw; (try dsimp only at hSw); go_simp; (try with_reducible rfl))
      try simp only [Act.put, List.getElem_toArray, List.getElem_cons_succ, List.getElem_cons_zero, List.setIfInBounds_toArray, List.set_cons_zero, List.set_cons_succ]
      refine wpAnyH_take (i := 27) (v := ?_) rfl (by kernel_rfl) (by kernel_rfl) (by kernel_rfl) (fun _ _ _ h => h) (Or.inl ⟨by rfl, ?_⟩) (by assumption) ?_
      rotate_left
      · (intro w hSw; (try dsimp only at hSw); go_simp; (try with_reducible rfl))
      try simp only [Act.put, List.getElem_toArray, List.getElem_cons_succ, List.getElem_cons_zero, List.setIfInBounds_toArray, List.set_cons_zero, List.set_cons_succ]
      refine wpAnyH_take (i := 28) (v := ?_) rfl (by kernel_rfl) (by kernel_rfl) (by kernel_rfl) (fun _ _ _ h => h) (Or.inl ⟨by rfl, ?_⟩) (by assumption) ?_
      rotate_left
      · (intro w hSw; (try dsimp only at hSw); go_simp; (try with_reducible rfl))
      try simp only [Act.put, List.getElem_toArray, List.getElem_cons_succ, List.getElem_cons_zero, List.setIfInBounds_toArray, List.set_cons_zero, List.set_cons_succ]
      refine wpAnyH_take (i := 29) (v := ?_) rfl (by kernel_rfl) (by kernel_rfl) (by kernel_rfl) (fun _ _ _ h => h) (Or.inl ⟨by rfl, ?_⟩) (by assumption) ?_
      rotate_left
      · (intro w hSw; (try dsimp only at hSw); go_simp; (try with_reducible rfl))
      try simp only [Act.put, List.getElem_toArray, List.getElem_cons_succ, List.getElem_cons_zero, List.setIfInBounds_toArray, List.set_cons_zero, List.set_cons_succ]
      refine wpAnyH_ready (rs := [30]) (by kernel_rfl) (by simp) ?_
      refine AllReadyH.cons rfl (fun K hK => ?_) AllReadyH.nil
      go_simp
      refine (HTI.out _ ?h1).mono ?_
      case h1 => exact hyA4.1
      rintro e wA5' ⟨hbA5, v5', rfl, hV5⟩
      have hyA5 := Bxs.below hyA4 hbA5
      obtain ⟨je0a, je1a, je2a, -⟩ := three_cells (HBa.out.below hyA5.1)
      obtain ⟨je0b, je1b, je2b, -⟩ := three_cells (HBb.out.below hyA5.1)
      obtain ⟨je0c, je1c, je2c, -⟩ := three_cells (HBc.out.below hyA5.1)
      obtain ⟨je0d, je1d, je2d, -⟩ := three_cells (HBd.out.below hyA5.1)
      obtain ⟨je0m, je1m, je2m, -⟩ := three_cells (HBm.out.below hyA5.1)
      obtain ⟨je0x, je1x, je2x, je3x, -⟩ := four_cells (HBx.out.below hyA5.1)
      obtain ⟨je0y, je1y, je2y, je3y, -⟩ := four_cells (HBy.out.below hyA5.1)
      refine hK.out _ _ ?_ (fun hHeld => ?_)
      · exact ⟨je0a, je1a, je2a, je0b, je1b, je2b, je0c, je1c, je2c, je0d, je1d, je2d, je0m, je1m, je2m, je0x, je1x, je2x, je3x, je0y, je1y, je2y, je3y⟩
      clear hK K
      try simp only [Act.put, List.getElem_toArray, List.getElem_cons_succ, List.getElem_cons_zero, List.setIfInBounds_toArray, List.set_cons_zero, List.set_cons_succ]
      refine wpAnyH_ready (rs := [31]) (by kernel_rfl) (by simp) ?_
      refine AllReadyH.cons rfl (fun K hK => ?_) AllReadyH.nil
      go_simp
      refine (HEm.out _ _ ?h1 ?h2).mono ?_
      case h1 => exact hyA5.1
      case h2 => exact hV5
      rintro e wA6' ⟨hbA6, rfl⟩
      have hyA6 := Bxs.below hyA5 hbA6
      obtain ⟨jf0a, jf1a, jf2a, -⟩ := three_cells (HBa.out.below hyA6.1)
      obtain ⟨jf0b, jf1b, jf2b, -⟩ := three_cells (HBb.out.below hyA6.1)
      obtain ⟨jf0c, jf1c, jf2c, -⟩ := three_cells (HBc.out.below hyA6.1)
      obtain ⟨jf0d, jf1d, jf2d, -⟩ := three_cells (HBd.out.below hyA6.1)
      obtain ⟨jf0m, jf1m, jf2m, -⟩ := three_cells (HBm.out.below hyA6.1)
      obtain ⟨jf0x, jf1x, jf2x, jf3x, -⟩ := four_cells (HBx.out.below hyA6.1)
      obtain ⟨jf0y, jf1y, jf2y, jf3y, -⟩ := four_cells (HBy.out.below hyA6.1)
      refine hK.out _ _ ?_ (fun hHeld => ?_)
      · exact ⟨jf0a, jf1a, jf2a, jf0b, jf1b, jf2b, jf0c, jf1c, jf2c, jf0d, jf1d, jf2d, jf0m, jf1m, jf2m, jf0x, jf1x, jf2x, jf3x, jf0y, jf1y, jf2y, jf3y⟩
      clear hK K
      try simp only [Act.put, List.getElem_toArray, List.getElem_cons_succ, List.getElem_cons_zero, List.setIfInBounds_toArray, List.set_cons_zero, List.set_cons_succ]
      refine wpAnyH_take (i := 32) (v := ?_) rfl (by kernel_rfl) (by kernel_rfl) (by kernel_rfl) (fun _ _ _ h => h) (Or.inl ⟨by rfl, ?_⟩) (by assumption) ?_
      rotate_left
      · (intro w hSw; (try dsimp only at hSw); go_simp; (try with_reducible rfl))
      try simp only [Act.put, List.getElem_toArray, List.getElem_cons_succ, List.getElem_cons_zero, List.setIfInBounds_toArray, List.set_cons_zero, List.set_cons_succ]
      refine wpAnyH_take (i := 33) (v := ?_) rfl (by kernel_rfl) (by kernel_rfl) (by kernel_rfl) (fun _ _ _ h => h) (Or.inl ⟨by rfl, ?_⟩) (by assumption) ?_
      rotate_left
      · (intro w hSw; (try dsimp only at hSw); go_simp; (try with_reducible rfl))
      try simp only [Act.put, List.getElem_toArray, List.getElem_cons_succ, List.getElem_cons_zero, List.setIfInBounds_toArray, List.set_cons_zero, List.set_cons_succ]
      refine wpAnyH_take (i := 34) (v := ?_) rfl (by kernel_rfl) (by kernel_rfl) (by kernel_rfl) (fun _ _ _ h => h) (Or.inl ⟨by rfl, ?_⟩) (by assumption) ?_
      rotate_left
      · (intro w hSw; (try dsimp only at hSw); go_simp; (try with_reducible rfl))
      try simp only [Act.put, List.getElem_toArray, List.getElem_cons_succ, List.getElem_cons_zero, List.setIfInBounds_toArray, List.set_cons_zero, List.set_cons_succ]
      refine wpAnyH_take (i := 35) (v := ?_) rfl (by kernel_rfl) (by kernel_rfl) (by kernel_rfl) (fun _ _ _ h => h) (Or.inl ⟨by rfl, ?_⟩) (by assumption) ?_
      rotate_left
      · (intro w hSw; (try dsimp only at hSw); go_simp; (try with_reducible rfl))
      try simp only [Act.put, List.getElem_toArray, List.getElem_cons_succ, List.getElem_cons_zero, List.setIfInBounds_toArray, List.set_cons_zero, List.set_cons_succ]
      refine wpAnyH_take (i := 36) (v := ?_) rfl (by kernel_rfl) (by kernel_rfl) (by kernel_rfl) (fun _ _ _ h => h) (Or.inl ⟨by rfl, ?_⟩) (by assumption) ?_
      rotate_left
      · (intro w hSw; (try dsimp only at hSw); go_simp; (try with_reducible rfl))
      try simp only [Act.put, List.getElem_toArray, List.getElem_cons_succ, List.getElem_cons_zero, List.setIfInBounds_toArray, List.set_cons_zero, List.set_cons_succ]
      refine wpAnyH_take (i := 38) (v := ?_) rfl (by kernel_rfl) (by kernel_rfl) (by kernel_rfl) (fun _ _ _ h => h) (Or.inl ⟨by rfl, ?_⟩) (by assumption) ?_
      rotate_left
      · (intro w hSw; (try dsimp only at hSw); go_simp; (try with_reducible rfl))
      try simp only [Act.put, List.getElem_toArray, List.getElem_cons_succ, List.getElem_cons_zero, List.setIfInBounds_toArray, List.set_cons_zero, List.set_cons_succ]
      refine wpAnyH_take (i := 39) (v := ?_) rfl (by kernel_rfl) (by kernel_rfl) (by kernel_rfl) (fun _ _ _ h => h) (Or.inl ⟨by rfl, ?_⟩) (by assumption) ?_
      rotate_left
      · (intro w hSw; (try dsimp only at hSw); go_simp; (try with_reducible rfl))
      try simp only [Act.put, List.getElem_toArray, List.getElem_cons_succ, List.getElem_cons_zero, List.setIfInBounds_toArray, List.set_cons_zero, List.set_cons_succ]
      refine wpAnyH_ready (rs := [37]) (by kernel_rfl) (by simp) ?_
      refine AllReadyH.cons rfl (fun K hK => ?_) AllReadyH.nil
      go_simp
      refine (HCA.out _ ?h1).mono ?_
      case h1 => exact hyA6.1
      rintro e wA7' ⟨hbA7, rfl⟩
      have hyA7 := Bxs.below hyA6 hbA7
      obtain ⟨jg0a, jg1a, jg2a, -⟩ := three_cells (HBa.out.below hyA7.1)
      obtain ⟨jg0b, jg1b, jg2b, -⟩ := three_cells (HBb.out.below hyA7.1)
      obtain ⟨jg0c, jg1c, jg2c, -⟩ := three_cells (HBc.out.below hyA7.1)
      obtain ⟨jg0d, jg1d, jg2d, -⟩ := three_cells (HBd.out.below hyA7.1)
      obtain ⟨jg0m, jg1m, jg2m, -⟩ := three_cells (HBm.out.below hyA7.1)
      obtain ⟨jg0x, jg1x, jg2x, jg3x, -⟩ := four_cells (HBx.out.below hyA7.1)
      obtain ⟨jg0y, jg1y, jg2y, jg3y, -⟩ := four_cells (HBy.out.below hyA7.1)
      refine hK.out _ _ ?_ (fun hHeld => ?_)
      · exact ⟨jg0a, jg1a, jg2a, jg0b, jg1b, jg2b, jg0c, jg1c, jg2c, jg0d, jg1d, jg2d, jg0m, jg1m, jg2m, jg0x, jg1x, jg2x, jg3x, jg0y, jg1y, jg2y, jg3y⟩
      clear hK K
      try simp only [Act.put, List.getElem_toArray, List.getElem_cons_succ, List.getElem_cons_zero, List.setIfInBounds_toArray, List.set_cons_zero, List.set_cons_succ]
      refine wpAnyH_ready (rs := [40]) (by kernel_rfl) (by simp) ?_
      refine AllReadyH.cons rfl (fun K hK => ?_) AllReadyH.nil
      go_simp
      refine (HCQ.out _ ?h1).mono ?_
      case h1 => exact hyA7.1
      rintro e wA8' ⟨hbA8, rfl⟩
      have hyA8 := Bxs.below hyA7 hbA8
      obtain ⟨jh0a, jh1a, jh2a, -⟩ := three_cells (HBa.out.below hyA8.1)
      obtain ⟨jh0b, jh1b, jh2b, -⟩ := three_cells (HBb.out.below hyA8.1)
      obtain ⟨jh0c, jh1c, jh2c, -⟩ := three_cells (HBc.out.below hyA8.1)
      obtain ⟨jh0d, jh1d, jh2d, -⟩ := three_cells (HBd.out.below hyA8.1)
      obtain ⟨jh0m, jh1m, jh2m, -⟩ := three_cells (HBm.out.below hyA8.1)
      obtain ⟨jh0x, jh1x, jh2x, jh3x, -⟩ := four_cells (HBx.out.below hyA8.1)
      obtain ⟨jh0y, jh1y, jh2y, jh3y, -⟩ := four_cells (HBy.out.below hyA8.1)
      refine hK.out _ _ ?_ (fun hHeld => ?_)
      · exact ⟨jh0a, jh1a, jh2a, jh0b, jh1b, jh2b, jh0c, jh1c, jh2c, jh0d, jh1d, jh2d, jh0m, jh1m, jh2m, jh0x, jh1x, jh2x, jh3x, jh0y, jh1y, jh2y, jh3y⟩
      clear hK K
      try simp only [Act.put, List.getElem_toArray, List.getElem_cons_succ, List.getElem_cons_zero, List.setIfInBounds_toArray, List.set_cons_zero, List.set_cons_succ]
      refine wpAnyH_take (i := 41) (v := ?_) rfl (by kernel_rfl) (by kernel_rfl) (by kernel_rfl) (fun _ _ _ h => h) (Or.inl ⟨by rfl, ?_⟩) (by assumption) ?_
      rotate_left
      · (intro w hSw; (try dsimp only at hSw); go_simp; (try with_reducible rfl))
      try simp only [Act.put, List.getElem_toArray, List.getElem_cons_succ, List.getElem_cons_zero, List.setIfInBounds_toArray, List.set_cons_zero, List.set_cons_succ]
      refine wpAnyH_take (i := 42) (v := ?_) rfl (by kernel_rfl) (by kernel_rfl) (by kernel_rfl) (fun _ _ _ h => h) (Or.inl ⟨by rfl, ?_⟩) (by assumption) ?_
      rotate_left
      · (intro w hSw; (try dsimp only at hSw); go_simp; (try with_reducible rfl))
      try simp only [Act.put, List.getElem_toArray, List.getElem_cons_succ, List.getElem_cons_zero, List.setIfInBounds_toArray, List.set_cons_zero, List.set_cons_succ]
      refine wpAnyH_done (by kernel_rfl) ?_ _
      have hmv := hyA8.1
      clear ii0a ii1a ii2a ii0b ii1b ii2b ii0c ii1c ii2c ii0d ii1d ii2d ii0m ii1m ii2m ii0x ii1x ii2x ii3x ii0y ii1y ii2y ii3y ja0a ja1a ja2a ja0b ja1b ja2b ja0c ja1c ja2c ja0d ja1d ja2d ja0m ja1m ja2m ja0x ja1x ja2x ja3x ja0y ja1y ja2y ja3y jb0a jb1a jb2a jb0b jb1b jb2b jb0c jb1c jb2c jb0d jb1d jb2d jb0m jb1m jb2m jb0x jb1x jb2x jb3x jb0y jb1y jb2y jb3y jc0a jc1a jc2a jc0b jc1b jc2b jc0c jc1c jc2c jc0d jc1d jc2d jc0m jc1m jc2m jc0x jc1x jc2x jc3x jc0y jc1y jc2y jc3y jd0a jd1a jd2a jd0b jd1b jd2b jd0c jd1c jd2c jd0d jd1d jd2d jd0m jd1m jd2m jd0x jd1x jd2x jd3x jd0y jd1y jd2y jd3y je0a je1a je2a je0b je1b je2b je0c je1c je2c je0d je1d je2d je0m je1m je2m je0x je1x je2x je3x je0y je1y je2y je3y jf0a jf1a jf2a jf0b jf1b jf2b jf0c jf1c jf2c jf0d jf1d jf2d jf0m jf1m jf2m jf0x jf1x jf2x jf3x jf0y jf1y jf2y jf3y jg0a jg1a jg2a jg0b jg1b jg2b jg0c jg1c jg2c jg0d jg1d jg2d jg0m jg1m jg2m jg0x jg1x jg2x jg3x jg0y jg1y jg2y jg3y jh0a jh1a jh2a jh0b jh1b jh2b jh0c jh1c jh2c jh0d jh1d jh2d jh0m jh1m jh2m jh0x jh1x jh2x jh3x jh0y jh1y jh2y jh3y
      replace HBa := Kept.mk (HBa.out.below hmv)
      replace HIa := Kept.mk (HIa.out.below hmv)
      replace HBx := Kept.mk (HBx.out.below hmv)
      replace HIx := Kept.mk (HIx.out.below hmv)
      replace HBb := Kept.mk (HBb.out.below hmv)
      replace HIb := Kept.mk (HIb.out.below hmv)
      replace HBy := Kept.mk (HBy.out.below hmv)
      replace HIy := Kept.mk (HIy.out.below hmv)
      replace HBc := Kept.mk (HBc.out.below hmv)
      replace HIc := Kept.mk (HIc.out.below hmv)
      replace HBd := Kept.mk (HBd.out.below hmv)
      replace HId := Kept.mk (HId.out.below hmv)
      replace HBm := Kept.mk (HBm.out.below hmv)
      replace HIm := Kept.mk (HIm.out.below hmv)
      replace HW := Kept.mk (HW.out.trans (Below.mono hmv HW.out.size))
      clear hmv HPL HMI HTI HEc HEd HEm HCA HCQ hyA8 hbA8 hyA7 hbA7 hyA6 hbA6 hyA5 hbA5 hyA4 hbA4 hyA3 hbA3 hyA2 hbA2 hyA1 hbA1
      clear HBc HIc
      clear HBd HId
      clear HBm HIm
      by_cases hz2 : P2 = 0
      · skip
        subst hz2
        obtain ⟨p16_0a, p16_1a, p16_2a, -⟩ := three_cells (HBa.out)
        obtain ⟨p17_0b, p17_1b, p17_2b, -⟩ := three_cells (HBb.out)
        go_wp2_with fail
        refine (rquoq_zero HIa.out HIb.out).mono ?_
        rintro e w15 ⟨hb15, he15⟩
        have hf15 : e = .returned (.tuple #[.agg #[.bool false, .slice none 0 0, .slice none 0 0], .int .i64 6]) := he15
        clear he15
        subst hf15
        have hR15 := RatV.zero 0 w15
        replace HBa := Kept.mk (HBa.out.below hb15)
        replace HIa := Kept.mk (HIa.out.below hb15)
        replace HBx := Kept.mk (HBx.out.below hb15)
        replace HIx := Kept.mk (HIx.out.below hb15)
        replace HBb := Kept.mk (HBb.out.below hb15)
        replace HIb := Kept.mk (HIb.out.below hb15)
        replace HBy := Kept.mk (HBy.out.below hb15)
        replace HIy := Kept.mk (HIy.out.below hb15)
        replace HW := Kept.mk (HW.out.trans (Below.mono hb15 HW.out.size))
        clear hb15 p16_0a p16_1a p16_2a p17_0b p17_1b p17_2b
        have hal18 : Below w15.heap.size w15 (w15.alloc (.cells #[.bool false, .slice none 0 0, .slice none 0 0] 76)) := (Below.refl _ _).alloc (Nat.le_refl _) _
        replace HBa := Kept.mk (HBa.out.below hal18)
        replace HIa := Kept.mk (HIa.out.below hal18)
        replace HBx := Kept.mk (HBx.out.below hal18)
        replace HIx := Kept.mk (HIx.out.below hal18)
        replace HBb := Kept.mk (HBb.out.below hal18)
        replace HIb := Kept.mk (HIb.out.below hal18)
        replace HBy := Kept.mk (HBy.out.below hal18)
        replace HIy := Kept.mk (HIy.out.below hal18)
        replace HW := Kept.mk (HW.out.trans (Below.mono hal18 HW.out.size))
        have HBq : Kept (H3 (w15.alloc (.cells #[.bool false, .slice none 0 0, .slice none 0 0] 76)) w15.heap.size (.bool false) (.slice none 0 0) (.slice none 0 0)) := ⟨H3.new _ _ _ _ _ rfl⟩
        have HIq : Kept (RatV 0 (w15.alloc (.cells #[.bool false, .slice none 0 0, .slice none 0 0] 76)) (.agg #[.bool false, .slice none 0 0, .slice none 0 0]) (0) (1)) := ⟨hR15.below hal18⟩
        clear hal18 hR15
        obtain ⟨p20_0y, p20_1y, p20_2y, p20_3y, -⟩ := four_cells (HBy.out)
        go_wp2_with fail
        refine (rsgn_any HIy.out).mono ?_
        rintro e w19 ⟨hb19, he19⟩
        rw [Dg.sg_eq] at he19
        subst he19
        replace HBa := Kept.mk (HBa.out.below hb19)
        replace HIa := Kept.mk (HIa.out.below hb19)
        replace HBx := Kept.mk (HBx.out.below hb19)
        replace HIx := Kept.mk (HIx.out.below hb19)
        replace HBb := Kept.mk (HBb.out.below hb19)
        replace HIb := Kept.mk (HIb.out.below hb19)
        replace HBy := Kept.mk (HBy.out.below hb19)
        replace HIy := Kept.mk (HIy.out.below hb19)
        replace HBq := Kept.mk (HBq.out.below hb19)
        replace HIq := Kept.mk (HIq.out.below hb19)
        replace HW := Kept.mk (HW.out.trans (Below.mono hb19 HW.out.size))
        clear hb19 p20_0y p20_1y p20_2y p20_3y
        obtain ⟨p22_0q, p22_1q, p22_2q, -⟩ := three_cells (HBq.out)
        go_wp2_with fail
        refine (rsign_any HIq.out).mono ?_
        rintro e w21 ⟨hb21, he21⟩
        rw [Dg.sg_eq] at he21
        subst he21
        replace HBa := Kept.mk (HBa.out.below hb21)
        replace HIa := Kept.mk (HIa.out.below hb21)
        replace HBx := Kept.mk (HBx.out.below hb21)
        replace HIx := Kept.mk (HIx.out.below hb21)
        replace HBb := Kept.mk (HBb.out.below hb21)
        replace HIb := Kept.mk (HIb.out.below hb21)
        replace HBy := Kept.mk (HBy.out.below hb21)
        replace HIy := Kept.mk (HIy.out.below hb21)
        replace HBq := Kept.mk (HBq.out.below hb21)
        replace HIq := Kept.mk (HIq.out.below hb21)
        replace HW := Kept.mk (HW.out.trans (Below.mono hb21 HW.out.size))
        clear hb21 p22_0q p22_1q p22_2q
        go_wp2_with fail
        refine (awake_any _).mono ?_
        rintro e w23 ⟨hb23, he23⟩
        subst he23
        replace HBa := Kept.mk (HBa.out.below hb23)
        replace HIa := Kept.mk (HIa.out.below hb23)
        replace HBx := Kept.mk (HBx.out.below hb23)
        replace HIx := Kept.mk (HIx.out.below hb23)
        replace HBb := Kept.mk (HBb.out.below hb23)
        replace HIb := Kept.mk (HIb.out.below hb23)
        replace HBy := Kept.mk (HBy.out.below hb23)
        replace HIy := Kept.mk (HIy.out.below hb23)
        replace HBq := Kept.mk (HBq.out.below hb23)
        replace HIq := Kept.mk (HIq.out.below hb23)
        replace HW := Kept.mk (HW.out.trans (Below.mono hb23 HW.out.size))
        clear hb23 
        go_wp2
        go_ret
        exact ⟨HW.out, rfl⟩
      · skip
        obtain ⟨τ, hn0, hτ⟩ : ∃ σ : Int, (σ == 0) = false ∧ Dg.sg P2 0 = σ := by
          refine ⟨_, ?_, rfl⟩
          rcases Int.lt_trichotomy P2 0 with h | h | h
          · rw [Dg.sg_lt h]; rfl
          · exact absurd h hz2
          · rw [Dg.sg_gt h]; rfl
        have Hτ := Kept.mk hτ
        clear hτ
        have hpp : Q1 * P2 ≠ 0 := Int.mul_ne_zero (by omega) hz2
        obtain ⟨QN, hQN⟩ : ∃ x, frN (P1 * Q2) (Q1 * P2) = x := ⟨_, rfl⟩
        obtain ⟨QD, hQD⟩ : ∃ x, frD (P1 * Q2) (Q1 * P2) = x := ⟨_, rfl⟩
        have hQDp : 0 < QD := by rw [← hQD]; exact frD_pos hpp
        have HQN := Kept.mk hQN
        have HQD := Kept.mk hQD
        clear hQN hQD
        have HPP := Kept.mk hpp
        have HZ2 := Kept.mk hz2
        clear hpp hz2
        obtain ⟨p16_0a, p16_1a, p16_2a, -⟩ := three_cells (HBa.out)
        obtain ⟨p17_0b, p17_1b, p17_2b, -⟩ := three_cells (HBb.out)
        go_wp2_with fail
        have hc15 := rquoq_any HIa.out HIb.out hQ1p HLOQ2.out HZ2.out (by decide) (by decide) (HSQ.out HZ2.out)
        rw [HQN.out, HQD.out] at hc15
        refine hc15.mono ?_
        clear hc15
        rintro e w15 ⟨hb15, v15, rfl, hR15⟩
        obtain ⟨s15, o15, k15, c15, u15, j15, d15, rfl, g1, g2, g3, g4⟩ := hR15.form
        clear g1 g2 g3 g4
        replace HBa := Kept.mk (HBa.out.below hb15)
        replace HIa := Kept.mk (HIa.out.below hb15)
        replace HBx := Kept.mk (HBx.out.below hb15)
        replace HIx := Kept.mk (HIx.out.below hb15)
        replace HBb := Kept.mk (HBb.out.below hb15)
        replace HIb := Kept.mk (HIb.out.below hb15)
        replace HBy := Kept.mk (HBy.out.below hb15)
        replace HIy := Kept.mk (HIy.out.below hb15)
        replace HW := Kept.mk (HW.out.trans (Below.mono hb15 HW.out.size))
        clear hb15 p16_0a p16_1a p16_2a p17_0b p17_1b p17_2b
        have hal18 : Below w15.heap.size w15 (w15.alloc (.cells #[.bool s15, .slice o15 k15 c15, .slice u15 j15 d15] 76)) := (Below.refl _ _).alloc (Nat.le_refl _) _
        replace HBa := Kept.mk (HBa.out.below hal18)
        replace HIa := Kept.mk (HIa.out.below hal18)
        replace HBx := Kept.mk (HBx.out.below hal18)
        replace HIx := Kept.mk (HIx.out.below hal18)
        replace HBb := Kept.mk (HBb.out.below hal18)
        replace HIb := Kept.mk (HIb.out.below hal18)
        replace HBy := Kept.mk (HBy.out.below hal18)
        replace HIy := Kept.mk (HIy.out.below hal18)
        replace HW := Kept.mk (HW.out.trans (Below.mono hal18 HW.out.size))
        have HBq : Kept (H3 (w15.alloc (.cells #[.bool s15, .slice o15 k15 c15, .slice u15 j15 d15] 76)) w15.heap.size (.bool s15) (.slice o15 k15 c15) (.slice u15 j15 d15)) := ⟨H3.new _ _ _ _ _ rfl⟩
        have HIq : Kept (RatV (41000 + (max 41000 1) + 2) (w15.alloc (.cells #[.bool s15, .slice o15 k15 c15, .slice u15 j15 d15] 76)) (.agg #[.bool s15, .slice o15 k15 c15, .slice u15 j15 d15]) (QN) (QD)) := ⟨hR15.below hal18⟩
        clear hal18 hR15
        obtain ⟨p20_0y, p20_1y, p20_2y, p20_3y, -⟩ := four_cells (HBy.out)
        go_wp2_with fail
        refine (rsgn_any HIy.out).mono ?_
        rintro e w19 ⟨hb19, he19⟩
        rw [Hτ.out] at he19
        subst he19
        replace HBa := Kept.mk (HBa.out.below hb19)
        replace HIa := Kept.mk (HIa.out.below hb19)
        replace HBx := Kept.mk (HBx.out.below hb19)
        replace HIx := Kept.mk (HIx.out.below hb19)
        replace HBb := Kept.mk (HBb.out.below hb19)
        replace HIb := Kept.mk (HIb.out.below hb19)
        replace HBy := Kept.mk (HBy.out.below hb19)
        replace HIy := Kept.mk (HIy.out.below hb19)
        replace HBq := Kept.mk (HBq.out.below hb19)
        replace HIq := Kept.mk (HIq.out.below hb19)
        replace HW := Kept.mk (HW.out.trans (Below.mono hb19 HW.out.size))
        clear hb19 p20_0y p20_1y p20_2y p20_3y
        go_wp2_with fail
        have HOV : Kept (∀ W, Below w19.heap.size w19 W → Calls Tryz.prog 77 #[(.agg #[.bool s1_1, .slice o1_1 k1_1 c1_1, .bool s2_1, .slice o2_1 k2_1 c2_1]), (.agg #[.bool s1_2, .slice o1_2 k1_2 c1_2, .bool s2_2, .slice o2_2 k2_2 c2_2])] W (RetQ 929 W QN QD)) := ⟨fun W h => by have hc := rover_any (HIx.out.below h) (HIy.out.below h) HPP.out (by decide); rw [HQN.out, HQD.out] at hc; exact hc⟩
        have HEQ : Kept (∀ W u, Below w19.heap.size w19 W → QV 929 W u QN QD → Calls Tryz.prog 61 #[(.agg #[.bool s15, .slice o15 k15 c15, .slice u15 j15 d15]), u] W (RetV W (.bool true))) := ⟨fun W u h hu => requal_any (HIq.out.below h) hu hQDp (by decide) (by decide)⟩
        obtain ⟨ii0q, ii1q, ii2q, -⟩ := three_cells (HBq.out)
        obtain ⟨ii0x, ii1x, ii2x, ii3x, -⟩ := four_cells (HBx.out)
        obtain ⟨ii0y, ii1y, ii2y, ii3y, -⟩ := four_cells (HBy.out)
        refine wp_region_held_drew (S := fun w' => w'.cell? ⟨w15.heap.size, 0, none⟩ = some (.bool s15) ∧ w'.cell? ⟨w15.heap.size, 1, none⟩ = some (.slice o15 k15 c15) ∧ w'.cell? ⟨w15.heap.size, 2, none⟩ = some (.slice u15 j15 d15) ∧ w'.cell? ⟨(w1.heap.size + 1), 0, none⟩ = some (.bool s1_1) ∧ w'.cell? ⟨(w1.heap.size + 1), 1, none⟩ = some (.slice o1_1 k1_1 c1_1) ∧ w'.cell? ⟨(w1.heap.size + 1), 2, none⟩ = some (.bool s2_1) ∧ w'.cell? ⟨(w1.heap.size + 1), 3, none⟩ = some (.slice o2_1 k2_1 c2_1) ∧ w'.cell? ⟨(w2.heap.size + 1), 0, none⟩ = some (.bool s1_2) ∧ w'.cell? ⟨(w2.heap.size + 1), 1, none⟩ = some (.slice o1_2 k1_2 c1_2) ∧ w'.cell? ⟨(w2.heap.size + 1), 2, none⟩ = some (.bool s2_2) ∧ w'.cell? ⟨(w2.heap.size + 1), 3, none⟩ = some (.slice o2_2 k2_2 c2_2)) (by kernel_rfl) ?_ (fun hHeld => ?_)
        · exact ⟨ii0q, ii1q, ii2q, ii0x, ii1x, ii2x, ii3x, ii0y, ii1y, ii2y, ii3y⟩
        refine wpAnyH_take (i := 0) (v := ?_) rfl (by kernel_rfl) (by kernel_rfl) (by kernel_rfl) (fun _ _ _ h => h) (Or.inl ⟨by rfl, ?_⟩) (by assumption) ?_
        rotate_left
        · (intro w hSw; (try dsimp only at hSw); go_simp; (try with_reducible rfl))
        try simp only [Act.put, List.getElem_toArray, List.getElem_cons_succ, List.getElem_cons_zero, List.setIfInBounds_toArray, List.set_cons_zero, List.set_cons_succ]
        refine wpAnyH_take (i := 1) (v := ?_) rfl (by kernel_rfl) (by kernel_rfl) (by kernel_rfl) (fun _ _ _ h => h) (Or.inl ⟨by rfl, ?_⟩) (by assumption) ?_
        rotate_left
        · (intro w hSw; (try dsimp only at hSw); go_simp; (try with_reducible rfl))
        try simp only [Act.put, List.getElem_toArray, List.getElem_cons_succ, List.getElem_cons_zero, List.setIfInBounds_toArray, List.set_cons_zero, List.set_cons_succ]
        refine wpAnyH_take (i := 2) (v := ?_) rfl (by kernel_rfl) (by kernel_rfl) (by kernel_rfl) (fun _ _ _ h => h) (Or.inl ⟨by rfl, ?_⟩) (by assumption) ?_
        rotate_left
        · (intro w hSw; (try dsimp only at hSw); go_simp; (try with_reducible rfl))
        try simp only [Act.put, List.getElem_toArray, List.getElem_cons_succ, List.getElem_cons_zero, List.setIfInBounds_toArray, List.set_cons_zero, List.set_cons_succ]
        refine wpAnyH_take (i := 3) (v := ?_) rfl (by kernel_rfl) (by kernel_rfl) (by kernel_rfl) (fun _ _ _ h => h) (Or.inl ⟨by rfl, ?_⟩) (by assumption) ?_
        rotate_left
        · (intro w hSw; (try dsimp only at hSw); go_simp; (try with_reducible rfl))
        try simp only [Act.put, List.getElem_toArray, List.getElem_cons_succ, List.getElem_cons_zero, List.setIfInBounds_toArray, List.set_cons_zero, List.set_cons_succ]
        refine wpAnyH_take (i := 4) (v := ?_) rfl (by kernel_rfl) (by kernel_rfl) (by kernel_rfl) (fun _ _ _ h => h) (Or.inl ⟨by rfl, ?_⟩) (by assumption) ?_
        rotate_left
        · (intro w hSw; (try dsimp only at hSw); go_simp; (try with_reducible rfl))
        try simp only [Act.put, List.getElem_toArray, List.getElem_cons_succ, List.getElem_cons_zero, List.setIfInBounds_toArray, List.set_cons_zero, List.set_cons_succ]
        refine wpAnyH_take (i := 5) (v := ?_) rfl (by kernel_rfl) (by kernel_rfl) (by kernel_rfl) (fun _ _ _ h => h) (Or.inl ⟨by rfl, ?_⟩) (by assumption) ?_
        rotate_left
        · (intro w hSw; (try dsimp only at hSw); go_simp; (try with_reducible rfl))
        try simp only [Act.put, List.getElem_toArray, List.getElem_cons_succ, List.getElem_cons_zero, List.setIfInBounds_toArray, List.set_cons_zero, List.set_cons_succ]
        refine wpAnyH_ready (rs := [6]) (by kernel_rfl) (by simp) ?_
        refine AllReadyH.cons rfl (fun K hK => ?_) AllReadyH.nil
        go_simp
        refine (HOV.out _ ?h1).mono ?_
        case h1 => exact ((Bxs.start w19).drew).1
        rintro e wB1' ⟨hbB1, v1', rfl, hV1⟩
        have hyB1 := Bxs.below ((Bxs.start w19).drew) hbB1
        obtain ⟨ja0q, ja1q, ja2q, -⟩ := three_cells (HBq.out.below hyB1.1)
        obtain ⟨ja0x, ja1x, ja2x, ja3x, -⟩ := four_cells (HBx.out.below hyB1.1)
        obtain ⟨ja0y, ja1y, ja2y, ja3y, -⟩ := four_cells (HBy.out.below hyB1.1)
        refine hK.out _ _ ?_ (fun hHeld => ?_)
        · exact ⟨ja0q, ja1q, ja2q, ja0x, ja1x, ja2x, ja3x, ja0y, ja1y, ja2y, ja3y⟩
        clear hK K
        try simp only [Act.put, List.getElem_toArray, List.getElem_cons_succ, List.getElem_cons_zero, List.setIfInBounds_toArray, List.set_cons_zero, List.set_cons_succ]
        refine wpAnyH_ready (rs := [7]) (by kernel_rfl) (by simp) ?_
        refine AllReadyH.cons rfl (fun K hK => ?_) AllReadyH.nil
        go_simp
        refine (HEQ.out _ _ ?h1 ?h2).mono ?_
        case h1 => exact hyB1.1
        case h2 => exact hV1
        rintro e wB2' ⟨hbB2, rfl⟩
        have hyB2 := Bxs.below hyB1 hbB2
        obtain ⟨jb0q, jb1q, jb2q, -⟩ := three_cells (HBq.out.below hyB2.1)
        obtain ⟨jb0x, jb1x, jb2x, jb3x, -⟩ := four_cells (HBx.out.below hyB2.1)
        obtain ⟨jb0y, jb1y, jb2y, jb3y, -⟩ := four_cells (HBy.out.below hyB2.1)
        refine hK.out _ _ ?_ (fun hHeld => ?_)
        · exact ⟨jb0q, jb1q, jb2q, jb0x, jb1x, jb2x, jb3x, jb0y, jb1y, jb2y, jb3y⟩
        clear hK K
        try simp only [Act.put, List.getElem_toArray, List.getElem_cons_succ, List.getElem_cons_zero, List.setIfInBounds_toArray, List.set_cons_zero, List.set_cons_succ]
        refine wpAnyH_take (i := 8) (v := ?_) rfl (by kernel_rfl) (by kernel_rfl) (by kernel_rfl) (fun _ _ _ h => h) (Or.inl ⟨by rfl, ?_⟩) (by assumption) ?_
        rotate_left
        · (intro w hSw; (try dsimp only at hSw); go_simp; (try with_reducible rfl))
        try simp only [Act.put, List.getElem_toArray, List.getElem_cons_succ, List.getElem_cons_zero, List.setIfInBounds_toArray, List.set_cons_zero, List.set_cons_succ]
        refine wpAnyH_take (i := 9) (v := ?_) rfl (by kernel_rfl) (by kernel_rfl) (by kernel_rfl) (fun _ _ _ h => h) (Or.inl ⟨by rfl, ?_⟩) (by assumption) ?_
        rotate_left
        · (intro w hSw; (try dsimp only at hSw); go_simp; (try with_reducible rfl))
        try simp only [Act.put, List.getElem_toArray, List.getElem_cons_succ, List.getElem_cons_zero, List.setIfInBounds_toArray, List.set_cons_zero, List.set_cons_succ]
        refine wpAnyH_ready (rs := [10]) (by kernel_rfl) (by simp) ?_
        refine AllReadyH.cons rfl (fun K hK => ?_) AllReadyH.nil
        go_simp
        refine (awake_any _).mono ?_
        rintro e wB3' ⟨hbB3, rfl⟩
        have hyB3 := Bxs.below hyB2 hbB3
        obtain ⟨jc0q, jc1q, jc2q, -⟩ := three_cells (HBq.out.below hyB3.1)
        obtain ⟨jc0x, jc1x, jc2x, jc3x, -⟩ := four_cells (HBx.out.below hyB3.1)
        obtain ⟨jc0y, jc1y, jc2y, jc3y, -⟩ := four_cells (HBy.out.below hyB3.1)
        refine hK.out _ _ ?_ (fun hHeld => ?_)
        · exact ⟨jc0q, jc1q, jc2q, jc0x, jc1x, jc2x, jc3x, jc0y, jc1y, jc2y, jc3y⟩
        clear hK K
        try simp only [Act.put, List.getElem_toArray, List.getElem_cons_succ, List.getElem_cons_zero, List.setIfInBounds_toArray, List.set_cons_zero, List.set_cons_succ]
        refine wpAnyH_take (i := 11) (v := ?_) rfl (by kernel_rfl) (by kernel_rfl) (by kernel_rfl) (fun _ _ _ h => h) (Or.inl ⟨by rfl, ?_⟩) (by assumption) ?_
        rotate_left
        · (intro w hSw; (try dsimp only at hSw); go_simp; (try with_reducible rfl))
        try simp only [Act.put, List.getElem_toArray, List.getElem_cons_succ, List.getElem_cons_zero, List.setIfInBounds_toArray, List.set_cons_zero, List.set_cons_succ]
        refine wpAnyH_take (i := 12) (v := ?_) rfl (by kernel_rfl) (by kernel_rfl) (by kernel_rfl) (fun _ _ _ h => h) (Or.inl ⟨by rfl, ?_⟩) (by assumption) ?_
        rotate_left
        · (intro w hSw; (try dsimp only at hSw); go_simp; (try with_reducible rfl))
        try simp only [Act.put, List.getElem_toArray, List.getElem_cons_succ, List.getElem_cons_zero, List.setIfInBounds_toArray, List.set_cons_zero, List.set_cons_succ]
        refine wpAnyH_done (by kernel_rfl) ?_ _
        have hfin : Below w.heap.size w wB3' := HW.out.trans (hyB3.1.mono HW.out.size)
        have HFIN := Kept.mk hfin
        go_wp2
        go_ret
        exact ⟨HFIN.out, rfl⟩
end Go.Proofs.YtblbheilddafbaaGreatDoor

set_option linter.unusedVariables false
namespace Go.Proofs.YtblbheilddafbaaGreatDoor.tallyFields
open Go Go.ChangeShapes Go.WideShapes Go.ChangeAt Go.RowKit Go.Proofs.YtblbheilddafbaaGreatDoor
open Go.ChangeMaps (open_string shut_string)
set_option maxRecDepth 100000 in
theorem contract (H : Type) (enc : TypeId × Value → H) (W : World) (base : Nat) (args : Array Value) (ds gs : List (DataW H)) (before : List MemPlace)
    (hval : ∀ (j : Nat) t v, Tryz.f13.params[j]? = some t → args[j]? = some v → Value.okWide Tryz.prog W .any base t v)
    (hW : DataW.Whole enc Tryz.prog Tryz.f13.params.toList Rows.tallyFieldsSpec.vars false W args.toList ds gs before) (ts : List TypeId) (hsz : (DataW.weightsEach Tryz.prog (Tryz.f13.params.toList ++ ts) (ds ++ gs)).all (· ≤ reachBytes) = true) :
    Calls Tryz.prog 13 args W fun e W' => ∃ v, e = .returned v ∧ Rows.tallyFieldsSpec.post enc Tryz.prog Tryz.f13 false true false false W args v W' := by
  have hW' := hW
  obtain ⟨p, q, hA0, hV, rfl, hfz, hnd⟩ := hW
  have hA : DataW.TrodAll enc Tryz.prog W 0 (fun _ => true) true Tryz.f13.params.toList args.toList ds p := hA0
  rw [Tryz.params13] at hA hval hsz
  obtain ⟨v0, vs0, d0, ds0, p0, q0, hargs, rfl, rfl, h0, r0⟩ := trodAll_cons hA
  obtain ⟨v1, vs1, d1, ds1, p1, q1, rfl, rfl, rfl, h1, r1⟩ := trodAll_cons r0
  obtain ⟨rfl, rfl, rfl⟩ := trodAll_nil r1
  obtain rfl : args = #[v0, v1] := Array.toList_inj.1 hargs
  obtain ⟨rfl, rfl⟩ := trodVars_none hV
  obtain ⟨a0, rfl, rfl, rfl, w0⟩ := open_string Tryz.underlying9 (hval 0 9 v0 rfl rfl) h0
  obtain ⟨a1, rfl, rfl, rfl, w1⟩ := open_string Tryz.underlying9 (hval 1 9 v1 rfl rfl) h1
  clear hA0
  simp only [List.append_nil] at hW'
  have hr0 : a0.size ≤ 140737488355328 := by
    have h := sized_string hsz (j := 0) (t := 9) (bytes := a0.data.toList) rfl rfl
    have hl : a0.data.toList.length = a0.size := Array.length_toList
    have hq := reachBytes_lt
    omega
  have hr1 : a1.size ≤ 140737488355328 := by
    have h := sized_string hsz (j := 1) (t := 9) (bytes := a1.data.toList) rfl rfl
    have hl : a1.data.toList.length = a1.size := Array.length_toList
    have hq := reachBytes_lt
    omega
  refine (tallyFields_any a0 a1 W hr0 hr1).mono fun e W' ⟨hb, he⟩ => ?_
  subst he
  exact ⟨_, rfl, post_of_below (pa := []) (pv := []) hW' (fun _ _ _ => trodAll_cons_mk (shut_bool Tryz.underlying4 _) trodAll_mk0) (fun _ _ => trodAll_cons_mk (shut_string Tryz.underlying9 w0) (trodAll_cons_mk (shut_string Tryz.underlying9 w1) trodAll_mk0)) (fun _ _ => rfl) rfl
    hb (ok_one (by kernel_rfl) rfl (okWide_bool_mk Tryz.underlying4 _))⟩
end Go.Proofs.YtblbheilddafbaaGreatDoor.tallyFields
