/-
  Texts of the proof, merged by program: Sums.
-/
import Derived.Test.YtblbheilddafbaaGreatDoorZIsz
set_option linter.unusedVariables false
set_option linter.unusedSimpArgs false
namespace Go.Proofs.YtblbheilddafbaaGreatDoor
open Go Go.RowKit
/-- Block g holds these two cells of a reference's integer. -/
def Hz (W : World) (g : Nat) (x y : Value) : Prop := W.heap[g]? = some (.cells #[x, y] 25 (0, 0))
theorem Hz.new (W : World) (n : Nat) (x y : Value) (h : W.heap.size = n) : Hz (W.alloc (.cells #[x, y] 25)) n x y := heap_last W _ n h
theorem Hz.below {W W' : World} {g : Nat} {x y : Value} (h : Hz W g x y) (hb : Below W.heap.size W W') : Hz W' g x y := (hb.block g (Array.getElem?_eq_some_iff.1 h).1).trans h
def TP (n : Nat) : Nat := 10 ^ n
theorem dec_bound {z : Int} {n : Nat} (h : (Dg.decZ z).length ≤ n) : z.natAbs ≤ TP n := by
  have h1 : (Dg.decN z.natAbs).length ≤ n := by
    unfold Dg.decZ at h
    split at h
    · simp at h; omega
    · exact h
  have h2 := Dg.valD_lt (Dg.decN_dig z.natAbs)
  rw [Dg.decN_val] at h2
  exact Nat.le_of_lt (Nat.lt_of_lt_of_le h2 (Nat.pow_le_pow_right (by omega) h1))
theorem small_le {m n : Nat} (hn : smallB n = true) (h : m ≤ n) : smallB m = true := smallB_anti hn h
theorem big_sums : smallB ((TP 700 * TP 700 + (TP 700 + TP 700) : Nat) : Int) = true := by decide +kernel
theorem sum_sm {y z : Int} (hy : y.natAbs ≤ TP 700) (hz : z.natAbs ≤ TP 700) : smallB (y + z).natAbs = true :=
  small_le big_sums (by have := Int.natAbs_add_le y z; generalize TP 700 * TP 700 = Q at *; omega)
theorem dif_sm {y z : Int} (hy : y.natAbs ≤ TP 700) (hz : z.natAbs ≤ TP 700) : smallB (y - z).natAbs = true :=
  small_le big_sums (by have h : (y - z).natAbs ≤ y.natAbs + z.natAbs := by omega
                        generalize TP 700 * TP 700 = Q at *; omega)
theorem mul_sm {y z : Int} (hy : y.natAbs ≤ TP 700) (hz : z.natAbs ≤ TP 700) : smallB (y * z).natAbs = true :=
  small_le big_sums (by rw [Int.natAbs_mul]; have h2 := Nat.mul_le_mul hy hz; generalize TP 700 * TP 700 = Q at *; omega)
set_option maxRecDepth 20000 in
set_option maxHeartbeats 4000000 in
theorem tallySums_any (s t : ByteArray) (w : World) (hs : s.size ≤ 140737488355328) (ht : t.size ≤ 140737488355328) :
    Calls Tryz.prog 6 #[.string s, .string t] w (RetV w (.bool true)) := by
  have HW : Kept (Below w.heap.size w w) := ⟨Below.refl _ _⟩
  have hnot : ∀ (x : Bool) (w : World), (Op.unary .not (.bool x)).run Tryz.prog w = .ok (.bool (!x)) w := fun _ _ => rfl
  go_enter Tryz.func6, Tryz.ntmps6
  go_wp2_with fail
  refine (whole_any s _ hs).mono ?_
  rintro e w1 ⟨hb1, sa1, ao1, ka1, ca1, sb1, bo1, kb1, cb1, ok1, rfl, hy1⟩
  replace HW := Kept.mk (HW.out.trans (Below.mono hb1 HW.out.size))
  have HY1 := Kept.mk hy1
  clear hb1 hy1
  have hal1 : Below w1.heap.size w1 ((w1.alloc (.cells #[.bool sa1, .slice ao1 ka1 ca1] 30)).alloc (.cells #[.bool sb1, .slice bo1 kb1 cb1] 25)) := ((Below.refl _ _).alloc (Nat.le_refl _) _).alloc (by simp) _
  replace HW := Kept.mk (HW.out.trans (Below.mono hal1 HW.out.size))
  have HBa1 : Kept (Hb ((w1.alloc (.cells #[.bool sa1, .slice ao1 ka1 ca1] 30)).alloc (.cells #[.bool sb1, .slice bo1 kb1 cb1] 25)) w1.heap.size (.bool sa1) (.slice ao1 ka1 ca1)) := ⟨(Hb.new _ _ _ _ rfl).more _⟩
  have HBx1 : Kept (Hz ((w1.alloc (.cells #[.bool sa1, .slice ao1 ka1 ca1] 30)).alloc (.cells #[.bool sb1, .slice bo1 kb1 cb1] 25)) (w1.heap.size + 1) (.bool sb1) (.slice bo1 kb1 cb1)) := ⟨Hz.new _ _ _ _ (by simp)⟩
  have HAL1 := Kept.mk hal1
  clear hal1
  cases ok1
  · skip
    clear HBa1 HBx1 HY1 HAL1
    go_wp2_with fail
    refine (whole_any t _ ht).mono ?_
    rintro e w2 ⟨hb2, sa2, ao2, ka2, ca2, sb2, bo2, kb2, cb2, ok2, rfl, hy2⟩
    replace HW := Kept.mk (HW.out.trans (Below.mono hb2 HW.out.size))
    have HY2 := Kept.mk hy2
    clear hb2 hy2
    have hal2 : Below w2.heap.size w2 ((w2.alloc (.cells #[.bool sa2, .slice ao2 ka2 ca2] 30)).alloc (.cells #[.bool sb2, .slice bo2 kb2 cb2] 25)) := ((Below.refl _ _).alloc (Nat.le_refl _) _).alloc (by simp) _
    replace HW := Kept.mk (HW.out.trans (Below.mono hal2 HW.out.size))
    have HBa2 : Kept (Hb ((w2.alloc (.cells #[.bool sa2, .slice ao2 ka2 ca2] 30)).alloc (.cells #[.bool sb2, .slice bo2 kb2 cb2] 25)) w2.heap.size (.bool sa2) (.slice ao2 ka2 ca2)) := ⟨(Hb.new _ _ _ _ rfl).more _⟩
    have HBx2 : Kept (Hz ((w2.alloc (.cells #[.bool sa2, .slice ao2 ka2 ca2] 30)).alloc (.cells #[.bool sb2, .slice bo2 kb2 cb2] 25)) (w2.heap.size + 1) (.bool sb2) (.slice bo2 kb2 cb2)) := ⟨Hz.new _ _ _ _ (by simp)⟩
    have HAL2 := Kept.mk hal2
    clear hal2
    clear HBa2 HBx2 HY2 HAL2
    go_wp2_with fail
    refine (awake_any _).mono ?_
    rintro e w3 ⟨hb3, he3⟩
    subst he3
    replace HW := Kept.mk (HW.out.trans (Below.mono hb3 HW.out.size))
    clear hb3 
    go_wp2
    go_ret
    exact ⟨HW.out, rfl⟩
  · skip
    obtain ⟨z1, hz1, hl1, hsm1, hI1, hZ1⟩ := HY1.out rfl
    have HZ1 := Kept.mk hz1
    have HL1 := Kept.mk hl1
    have HSM1 := Kept.mk hsm1
    have HIa := Kept.mk (hI1.below HAL1.out)
    have HIx := Kept.mk (hZ1.below HAL1.out)
    have HBa := HBa1
    have HBx := HBx1
    clear hz1 hl1 hsm1 hI1 hZ1 HBa1 HBx1 HY1 HAL1
    go_wp2_with fail
    refine (whole_any t _ ht).mono ?_
    rintro e w2 ⟨hb2, sa2, ao2, ka2, ca2, sb2, bo2, kb2, cb2, ok2, rfl, hy2⟩
    replace HBa := Kept.mk (HBa.out.below hb2)
    replace HIa := Kept.mk (HIa.out.below hb2)
    replace HBx := Kept.mk (HBx.out.below hb2)
    replace HIx := Kept.mk (HIx.out.below hb2)
    replace HW := Kept.mk (HW.out.trans (Below.mono hb2 HW.out.size))
    have HY2 := Kept.mk hy2
    clear hb2 hy2
    have hal2 : Below w2.heap.size w2 ((w2.alloc (.cells #[.bool sa2, .slice ao2 ka2 ca2] 30)).alloc (.cells #[.bool sb2, .slice bo2 kb2 cb2] 25)) := ((Below.refl _ _).alloc (Nat.le_refl _) _).alloc (by simp) _
    replace HBa := Kept.mk (HBa.out.below hal2)
    replace HIa := Kept.mk (HIa.out.below hal2)
    replace HBx := Kept.mk (HBx.out.below hal2)
    replace HIx := Kept.mk (HIx.out.below hal2)
    replace HW := Kept.mk (HW.out.trans (Below.mono hal2 HW.out.size))
    have HBa2 : Kept (Hb ((w2.alloc (.cells #[.bool sa2, .slice ao2 ka2 ca2] 30)).alloc (.cells #[.bool sb2, .slice bo2 kb2 cb2] 25)) w2.heap.size (.bool sa2) (.slice ao2 ka2 ca2)) := ⟨(Hb.new _ _ _ _ rfl).more _⟩
    have HBx2 : Kept (Hz ((w2.alloc (.cells #[.bool sa2, .slice ao2 ka2 ca2] 30)).alloc (.cells #[.bool sb2, .slice bo2 kb2 cb2] 25)) (w2.heap.size + 1) (.bool sb2) (.slice bo2 kb2 cb2)) := ⟨Hz.new _ _ _ _ (by simp)⟩
    have HAL2 := Kept.mk hal2
    clear hal2
    cases ok2
    · skip
      clear HBa2 HBx2 HY2 HAL2
      go_wp2_with fail
      refine (awake_any _).mono ?_
      rintro e w3 ⟨hb3, he3⟩
      subst he3
      replace HBa := Kept.mk (HBa.out.below hb3)
      replace HIa := Kept.mk (HIa.out.below hb3)
      replace HBx := Kept.mk (HBx.out.below hb3)
      replace HIx := Kept.mk (HIx.out.below hb3)
      replace HW := Kept.mk (HW.out.trans (Below.mono hb3 HW.out.size))
      clear hb3 
      go_wp2
      go_ret
      exact ⟨HW.out, rfl⟩
    · skip
      obtain ⟨z2, hz2, hl2, hsm2, hI2, hZ2⟩ := HY2.out rfl
      have HZ2 := Kept.mk hz2
      have HL2 := Kept.mk hl2
      have HSM2 := Kept.mk hsm2
      have HIb := Kept.mk (hI2.below HAL2.out)
      have HIy := Kept.mk (hZ2.below HAL2.out)
      have HBb := HBa2
      have HBy := HBx2
      clear hz2 hl2 hsm2 hI2 hZ2 HBa2 HBx2 HY2 HAL2
      have HA7 := Kept.mk (dec_bound (n := 700) (z := z1) (by rw [← HZ1.out]; exact HL1.out))
      have HB7 := Kept.mk (dec_bound (n := 700) (z := z2) (by rw [← HZ2.out]; exact HL2.out))
      have HS1 := Kept.mk (sum_sm HA7.out HB7.out)
      have HS2 := Kept.mk (dif_sm HA7.out HB7.out)
      have HS3 := Kept.mk (mul_sm HA7.out HB7.out)
      obtain ⟨p4, q4, -, -⟩ := two_cells HBa.out
      obtain ⟨p5, q5, -, -⟩ := two_cells HBb.out
      go_wp2_with fail
      refine (add_any HIa.out HIb.out (by decide) (by decide)).mono ?_
      rintro e w3 hR
      obtain ⟨hb3, s3, o3, k3, c3, rfl, hI3⟩ := hR.yes HS1.out
      replace HBa := Kept.mk (HBa.out.below hb3)
      replace HIa := Kept.mk (HIa.out.below hb3)
      replace HBx := Kept.mk (HBx.out.below hb3)
      replace HIx := Kept.mk (HIx.out.below hb3)
      replace HBb := Kept.mk (HBb.out.below hb3)
      replace HIb := Kept.mk (HIb.out.below hb3)
      replace HBy := Kept.mk (HBy.out.below hb3)
      replace HIy := Kept.mk (HIy.out.below hb3)
      replace HW := Kept.mk (HW.out.trans (Below.mono hb3 HW.out.size))
      clear hb3 p4 q4 p5 q5 hR
      have hal6 : Below w3.heap.size w3 (w3.alloc (.cells #[.bool s3, .slice o3 k3 c3] 30)) := (Below.refl _ _).alloc (Nat.le_refl _) _
      replace HBa := Kept.mk (HBa.out.below hal6)
      replace HIa := Kept.mk (HIa.out.below hal6)
      replace HBx := Kept.mk (HBx.out.below hal6)
      replace HIx := Kept.mk (HIx.out.below hal6)
      replace HBb := Kept.mk (HBb.out.below hal6)
      replace HIb := Kept.mk (HIb.out.below hal6)
      replace HBy := Kept.mk (HBy.out.below hal6)
      replace HIy := Kept.mk (HIy.out.below hal6)
      replace HW := Kept.mk (HW.out.trans (Below.mono hal6 HW.out.size))
      have HBc : Kept (Hb (w3.alloc (.cells #[.bool s3, .slice o3 k3 c3] 30)) w3.heap.size (.bool s3) (.slice o3 k3 c3)) := ⟨Hb.new _ _ _ _ rfl⟩
      have HIc : Kept (IntV 625 (w3.alloc (.cells #[.bool s3, .slice o3 k3 c3] 30)) (.agg #[.bool s3, .slice o3 k3 c3]) (z1 + z2)) := ⟨hI3.below hal6⟩
      clear hal6 hI3
      obtain ⟨p8, q8, -, -⟩ := two_cells HBa.out
      obtain ⟨p9, q9, -, -⟩ := two_cells HBb.out
      go_wp2_with fail
      refine (sub_any HIa.out HIb.out (by decide) (by decide)).mono ?_
      rintro e w7 hR
      obtain ⟨hb7, s7, o7, k7, c7, rfl, hI7⟩ := hR.yes HS2.out
      replace HBa := Kept.mk (HBa.out.below hb7)
      replace HIa := Kept.mk (HIa.out.below hb7)
      replace HBx := Kept.mk (HBx.out.below hb7)
      replace HIx := Kept.mk (HIx.out.below hb7)
      replace HBb := Kept.mk (HBb.out.below hb7)
      replace HIb := Kept.mk (HIb.out.below hb7)
      replace HBy := Kept.mk (HBy.out.below hb7)
      replace HIy := Kept.mk (HIy.out.below hb7)
      replace HBc := Kept.mk (HBc.out.below hb7)
      replace HIc := Kept.mk (HIc.out.below hb7)
      replace HW := Kept.mk (HW.out.trans (Below.mono hb7 HW.out.size))
      clear hb7 p8 q8 p9 q9 hR
      have hal10 : Below w7.heap.size w7 (w7.alloc (.cells #[.bool s7, .slice o7 k7 c7] 30)) := (Below.refl _ _).alloc (Nat.le_refl _) _
      replace HBa := Kept.mk (HBa.out.below hal10)
      replace HIa := Kept.mk (HIa.out.below hal10)
      replace HBx := Kept.mk (HBx.out.below hal10)
      replace HIx := Kept.mk (HIx.out.below hal10)
      replace HBb := Kept.mk (HBb.out.below hal10)
      replace HIb := Kept.mk (HIb.out.below hal10)
      replace HBy := Kept.mk (HBy.out.below hal10)
      replace HIy := Kept.mk (HIy.out.below hal10)
      replace HBc := Kept.mk (HBc.out.below hal10)
      replace HIc := Kept.mk (HIc.out.below hal10)
      replace HW := Kept.mk (HW.out.trans (Below.mono hal10 HW.out.size))
      have HBd : Kept (Hb (w7.alloc (.cells #[.bool s7, .slice o7 k7 c7] 30)) w7.heap.size (.bool s7) (.slice o7 k7 c7)) := ⟨Hb.new _ _ _ _ rfl⟩
      have HId : Kept (IntV 625 (w7.alloc (.cells #[.bool s7, .slice o7 k7 c7] 30)) (.agg #[.bool s7, .slice o7 k7 c7]) (z1 - z2)) := ⟨hI7.below hal10⟩
      clear hal10 hI7
      obtain ⟨p12, q12, -, -⟩ := two_cells HBa.out
      obtain ⟨p13, q13, -, -⟩ := two_cells HBb.out
      go_wp2_with fail
      refine (mul_any HIa.out HIb.out (by decide) (by decide)).mono ?_
      rintro e w11 hR
      obtain ⟨hb11, s11, o11, k11, c11, rfl, hI11⟩ := hR.yes HS3.out
      replace HBa := Kept.mk (HBa.out.below hb11)
      replace HIa := Kept.mk (HIa.out.below hb11)
      replace HBx := Kept.mk (HBx.out.below hb11)
      replace HIx := Kept.mk (HIx.out.below hb11)
      replace HBb := Kept.mk (HBb.out.below hb11)
      replace HIb := Kept.mk (HIb.out.below hb11)
      replace HBy := Kept.mk (HBy.out.below hb11)
      replace HIy := Kept.mk (HIy.out.below hb11)
      replace HBc := Kept.mk (HBc.out.below hb11)
      replace HIc := Kept.mk (HIc.out.below hb11)
      replace HBd := Kept.mk (HBd.out.below hb11)
      replace HId := Kept.mk (HId.out.below hb11)
      replace HW := Kept.mk (HW.out.trans (Below.mono hb11 HW.out.size))
      clear hb11 p12 q12 p13 q13 hR
      have hal14 : Below w11.heap.size w11 (w11.alloc (.cells #[.bool s11, .slice o11 k11 c11] 30)) := (Below.refl _ _).alloc (Nat.le_refl _) _
      replace HBa := Kept.mk (HBa.out.below hal14)
      replace HIa := Kept.mk (HIa.out.below hal14)
      replace HBx := Kept.mk (HBx.out.below hal14)
      replace HIx := Kept.mk (HIx.out.below hal14)
      replace HBb := Kept.mk (HBb.out.below hal14)
      replace HIb := Kept.mk (HIb.out.below hal14)
      replace HBy := Kept.mk (HBy.out.below hal14)
      replace HIy := Kept.mk (HIy.out.below hal14)
      replace HBc := Kept.mk (HBc.out.below hal14)
      replace HIc := Kept.mk (HIc.out.below hal14)
      replace HBd := Kept.mk (HBd.out.below hal14)
      replace HId := Kept.mk (HId.out.below hal14)
      replace HW := Kept.mk (HW.out.trans (Below.mono hal14 HW.out.size))
      have HBm : Kept (Hb (w11.alloc (.cells #[.bool s11, .slice o11 k11 c11] 30)) w11.heap.size (.bool s11) (.slice o11 k11 c11)) := ⟨Hb.new _ _ _ _ rfl⟩
      have HIm : Kept (IntV 625 (w11.alloc (.cells #[.bool s11, .slice o11 k11 c11] 30)) (.agg #[.bool s11, .slice o11 k11 c11]) (z1 * z2)) := ⟨hI11.below hal14⟩
      clear hal14 hI11
      go_wp2_with fail
      generalize w11.alloc (.cells #[.bool s11, .slice o11 k11 c11] 30) = ws at *
      have HADD : Kept (∀ W, Below ws.heap.size ws W → Calls Tryz.prog 41 #[(.agg #[.bool sb1, .slice bo1 kb1 cb1]), (.agg #[.bool sb2, .slice bo2 kb2 cb2])] W (RetZ 702 W (z1 + z2))) := ⟨fun W h => raddz_any (HIx.out.below h) (HIy.out.below h) (by decide) (by decide)⟩
      have HSUB : Kept (∀ W, Below ws.heap.size ws W → Calls Tryz.prog 42 #[(.agg #[.bool sb1, .slice bo1 kb1 cb1]), (.agg #[.bool sb2, .slice bo2 kb2 cb2])] W (RetZ 702 W (z1 - z2))) := ⟨fun W h => rsubz_any (HIx.out.below h) (HIy.out.below h) (by decide) (by decide)⟩
      have HMUL : Kept (∀ W, Below ws.heap.size ws W → Calls Tryz.prog 43 #[(.agg #[.bool sb1, .slice bo1 kb1 cb1]), (.agg #[.bool sb2, .slice bo2 kb2 cb2])] W (RetZ 1402 W (z1 * z2))) := ⟨fun W h => rmulz_any (HIx.out.below h) (HIy.out.below h) (by decide) (by decide)⟩
      have HI1 : Kept (∀ W v, Below ws.heap.size ws W → ZV 702 W v (z1 + z2) → Calls Tryz.prog 27 #[(.agg #[.bool s3, .slice o3 k3 c3]), v] W (RetV W (.bool true))) := ⟨fun W v h hv => is_any (HIc.out.below h) hv (by decide) (by decide)⟩
      have HI2 : Kept (∀ W v, Below ws.heap.size ws W → ZV 702 W v (z1 - z2) → Calls Tryz.prog 27 #[(.agg #[.bool s7, .slice o7 k7 c7]), v] W (RetV W (.bool true))) := ⟨fun W v h hv => is_any (HId.out.below h) hv (by decide) (by decide)⟩
      have HI3 : Kept (∀ W v, Below ws.heap.size ws W → ZV 1402 W v (z1 * z2) → Calls Tryz.prog 27 #[(.agg #[.bool s11, .slice o11 k11 c11]), v] W (RetV W (.bool true))) := ⟨fun W v h hv => is_any (HIm.out.below h) hv (by decide) (by decide)⟩
      obtain ⟨i0c, i1c, -, -⟩ := two_cells HBc.out
      obtain ⟨i0d, i1d, -, -⟩ := two_cells HBd.out
      obtain ⟨i0m, i1m, -, -⟩ := two_cells HBm.out
      obtain ⟨i0x, i1x, -, -⟩ := two_cells HBx.out
      obtain ⟨i0y, i1y, -, -⟩ := two_cells HBy.out
      go_region_held3 (fun w' => w'.cell? ⟨w3.heap.size, 0, none⟩ = some (.bool s3) ∧ w'.cell? ⟨w3.heap.size, 1, none⟩ = some (.slice o3 k3 c3) ∧ w'.cell? ⟨w7.heap.size, 0, none⟩ = some (.bool s7) ∧ w'.cell? ⟨w7.heap.size, 1, none⟩ = some (.slice o7 k7 c7) ∧ w'.cell? ⟨w11.heap.size, 0, none⟩ = some (.bool s11) ∧ w'.cell? ⟨w11.heap.size, 1, none⟩ = some (.slice o11 k11 c11) ∧ w'.cell? ⟨(w1.heap.size + 1), 0, none⟩ = some (.bool sb1) ∧ w'.cell? ⟨(w1.heap.size + 1), 1, none⟩ = some (.slice bo1 kb1 cb1) ∧ w'.cell? ⟨(w2.heap.size + 1), 0, none⟩ = some (.bool sb2) ∧ w'.cell? ⟨(w2.heap.size + 1), 1, none⟩ = some (.slice bo2 kb2 cb2))
        (first | exact ⟨q0c, q1c, q0d, q1d, q0m, q1m, q0x, q1x, q0y, q1y⟩ | exact ⟨p0c, p1c, p0d, p1d, p0m, p1m, p0x, p1x, p0y, p1y⟩ | exact ⟨n0c, n1c, n0d, n1d, n0m, n1m, n0x, n1x, n0y, n1y⟩ | exact ⟨m0c, m1c, m0d, m1d, m0m, m1m, m0x, m1x, m0y, m1y⟩ | exact ⟨l0c, l1c, l0d, l1d, l0m, l1m, l0x, l1x, l0y, l1y⟩ | exact ⟨k0c, k1c, k0d, k1d, k0m, k1m, k0x, k1x, k0y, k1y⟩ | exact ⟨j0c, j1c, j0d, j1d, j0m, j1m, j0x, j1x, j0y, j1y⟩ | exact ⟨i0c, i1c, i0d, i1d, i0m, i1m, i0x, i1x, i0y, i1y⟩ | go_keep)
        ((first
          | (go_at_call 41; (with_reducible refine (HADD.out _ ?h1).mono ?_); (case h1 => exact ((Bxs.start ws).drew).1); rintro e w1' ⟨hb1, v1, rfl, hV1⟩; have hy1 := Bxs.below ((Bxs.start ws).drew) hb1; obtain ⟨j0c, j1c, -, -⟩ := two_cells (HBc.out.below hy1.1); obtain ⟨j0d, j1d, -, -⟩ := two_cells (HBd.out.below hy1.1); obtain ⟨j0m, j1m, -, -⟩ := two_cells (HBm.out.below hy1.1); obtain ⟨j0x, j1x, -, -⟩ := two_cells (HBx.out.below hy1.1); obtain ⟨j0y, j1y, -, -⟩ := two_cells (HBy.out.below hy1.1))
          | (go_at_call 27; (with_reducible refine (HI1.out _ _ ?h1 ?h2).mono ?_); (case h1 => exact hy1.1); (case h2 => exact hV1); rintro e w2' ⟨hb2, rfl⟩; have hy2 := Bxs.below hy1 hb2; obtain ⟨k0c, k1c, -, -⟩ := two_cells (HBc.out.below hy2.1); obtain ⟨k0d, k1d, -, -⟩ := two_cells (HBd.out.below hy2.1); obtain ⟨k0m, k1m, -, -⟩ := two_cells (HBm.out.below hy2.1); obtain ⟨k0x, k1x, -, -⟩ := two_cells (HBx.out.below hy2.1); obtain ⟨k0y, k1y, -, -⟩ := two_cells (HBy.out.below hy2.1))
          | (go_at_call 42; (with_reducible refine (HSUB.out _ ?h1).mono ?_); (case h1 => exact hy2.1); rintro e w3' ⟨hb3, v3, rfl, hV3⟩; have hy3 := Bxs.below hy2 hb3; obtain ⟨l0c, l1c, -, -⟩ := two_cells (HBc.out.below hy3.1); obtain ⟨l0d, l1d, -, -⟩ := two_cells (HBd.out.below hy3.1); obtain ⟨l0m, l1m, -, -⟩ := two_cells (HBm.out.below hy3.1); obtain ⟨l0x, l1x, -, -⟩ := two_cells (HBx.out.below hy3.1); obtain ⟨l0y, l1y, -, -⟩ := two_cells (HBy.out.below hy3.1))
          | (go_at_call 27; (with_reducible refine (HI2.out _ _ ?h1 ?h2).mono ?_); (case h1 => exact hy3.1); (case h2 => exact hV3); rintro e w4' ⟨hb4, rfl⟩; have hy4 := Bxs.below hy3 hb4; obtain ⟨m0c, m1c, -, -⟩ := two_cells (HBc.out.below hy4.1); obtain ⟨m0d, m1d, -, -⟩ := two_cells (HBd.out.below hy4.1); obtain ⟨m0m, m1m, -, -⟩ := two_cells (HBm.out.below hy4.1); obtain ⟨m0x, m1x, -, -⟩ := two_cells (HBx.out.below hy4.1); obtain ⟨m0y, m1y, -, -⟩ := two_cells (HBy.out.below hy4.1))
          | (go_at_call 43; (with_reducible refine (HMUL.out _ ?h1).mono ?_); (case h1 => exact hy4.1); rintro e w5' ⟨hb5, v5, rfl, hV5⟩; have hy5 := Bxs.below hy4 hb5; obtain ⟨n0c, n1c, -, -⟩ := two_cells (HBc.out.below hy5.1); obtain ⟨n0d, n1d, -, -⟩ := two_cells (HBd.out.below hy5.1); obtain ⟨n0m, n1m, -, -⟩ := two_cells (HBm.out.below hy5.1); obtain ⟨n0x, n1x, -, -⟩ := two_cells (HBx.out.below hy5.1); obtain ⟨n0y, n1y, -, -⟩ := two_cells (HBy.out.below hy5.1))
          | (go_at_call 27; (with_reducible refine (HI3.out _ _ ?h1 ?h2).mono ?_); (case h1 => exact hy5.1); (case h2 => exact hV5); rintro e w6' ⟨hb6, rfl⟩; have hy6 := Bxs.below hy5 hb6; obtain ⟨p0c, p1c, -, -⟩ := two_cells (HBc.out.below hy6.1); obtain ⟨p0d, p1d, -, -⟩ := two_cells (HBd.out.below hy6.1); obtain ⟨p0m, p1m, -, -⟩ := two_cells (HBm.out.below hy6.1); obtain ⟨p0x, p1x, -, -⟩ := two_cells (HBx.out.below hy6.1); obtain ⟨p0y, p1y, -, -⟩ := two_cells (HBy.out.below hy6.1))
          | (go_at_call 21; refine (awake_any _).mono ?_; rintro e w7' ⟨hb7, rfl⟩; have hy7 := Bxs.below hy6 hb7; obtain ⟨q0c, q1c, -, -⟩ := two_cells (HBc.out.below hy7.1); obtain ⟨q0d, q1d, -, -⟩ := two_cells (HBd.out.below hy7.1); obtain ⟨q0m, q1m, -, -⟩ := two_cells (HBm.out.below hy7.1); obtain ⟨q0x, q1x, -, -⟩ := two_cells (HBx.out.below hy7.1); obtain ⟨q0y, q1y, -, -⟩ := two_cells (HBy.out.below hy7.1))))
      have hfin : Below w.heap.size w w7' := HW.out.trans (hy7.1.mono HW.out.size)
      have HFIN := Kept.mk hfin
      go_wp2
      go_ret
      exact ⟨HFIN.out, rfl⟩
end Go.Proofs.YtblbheilddafbaaGreatDoor
