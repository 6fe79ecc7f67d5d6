/-
  Texts of the proof, merged by program: Ord.
-/
import Derived.Test.YtblbheilddafbaaGreatDoorZZdv
import Derived.Test.YtblbheilddafbaaGreatDoorZSums
set_option linter.unusedVariables false
set_option linter.unusedSimpArgs false
namespace Go.Proofs.YtblbheilddafbaaGreatDoor
open Go Go.RowKit
theorem sg_swap (a b : Int) : Dg.sg b a = -Dg.sg a b := by
  rcases Int.lt_trichotomy a b with h | h | h
  · rw [Dg.sg_gt h, Dg.sg_lt h]; rfl
  · subst h; rw [Dg.sg_eq]; rfl
  · rw [Dg.sg_lt h, Dg.sg_gt h]
set_option maxRecDepth 20000 in
set_option maxHeartbeats 8000000 in
theorem orders_eq (s t : ByteArray) (w : World) (hs : s.size ≤ 140737488355328) (ht : t.size ≤ 140737488355328) (hcase : ∀ z1 z2, s.data.toList = Dg.decZ z1 → t.data.toList = Dg.decZ z2 → Dg.sg z1 z2 = 0) :
    Calls Tryz.prog 5 #[.string s, .string t] w (RetV w (.bool true)) := by
  have HW : Kept (Below w.heap.size w w) := ⟨Below.refl _ _⟩
  have hnot : ∀ (x : Bool) (w : World), (Op.unary .not (.bool x)).run Tryz.prog w = .ok (.bool (!x)) w := fun _ _ => rfl
  go_enter Tryz.func5, Tryz.ntmps5
  go_wp2_with fail
  refine (whole_any s _ hs).mono ?_
  rintro e w1 ⟨hb1, sa1, ao1, ka1, ca1, sb1, bo1, kb1, cb1, ok1, rfl, hy1⟩
  replace HW := Kept.mk (HW.out.trans (Below.mono hb1 HW.out.size))
  have HY1 := Kept.mk hy1
  clear hb1 hy1
  have hal1 : Below w1.heap.size w1 ((w1.alloc (.cells #[.bool sa1, .slice ao1 ka1 ca1] 30)).alloc (.cells #[.bool sb1, .slice bo1 kb1 cb1] 25)) := ((Below.refl _ _).alloc (Nat.le_refl _) _).alloc (by simp) _
  replace HW := Kept.mk (HW.out.trans (Below.mono hal1 HW.out.size))
  have HBa1 : Kept (Hb ((w1.alloc (.cells #[.bool sa1, .slice ao1 ka1 ca1] 30)).alloc (.cells #[.bool sb1, .slice bo1 kb1 cb1] 25)) w1.heap.size (.bool sa1) (.slice ao1 ka1 ca1)) := ⟨(Hb.new _ _ _ _ rfl).more _⟩
  have HBx1 : Kept (Hz ((w1.alloc (.cells #[.bool sa1, .slice ao1 ka1 ca1] 30)).alloc (.cells #[.bool sb1, .slice bo1 kb1 cb1] 25)) (w1.heap.size + 1) (.bool sb1) (.slice bo1 kb1 cb1)) := ⟨Hz.new _ _ _ _ (by simp)⟩
  have HAL1 := Kept.mk hal1
  clear hal1
  cases ok1
  · skip
    clear HBa1 HBx1 HY1 HAL1
    go_wp2_with fail
    refine (whole_any t _ ht).mono ?_
    rintro e w2 ⟨hb2, sa2, ao2, ka2, ca2, sb2, bo2, kb2, cb2, ok2, rfl, hy2⟩
    replace HW := Kept.mk (HW.out.trans (Below.mono hb2 HW.out.size))
    have HY2 := Kept.mk hy2
    clear hb2 hy2
    have hal2 : Below w2.heap.size w2 ((w2.alloc (.cells #[.bool sa2, .slice ao2 ka2 ca2] 30)).alloc (.cells #[.bool sb2, .slice bo2 kb2 cb2] 25)) := ((Below.refl _ _).alloc (Nat.le_refl _) _).alloc (by simp) _
    replace HW := Kept.mk (HW.out.trans (Below.mono hal2 HW.out.size))
    have HBa2 : Kept (Hb ((w2.alloc (.cells #[.bool sa2, .slice ao2 ka2 ca2] 30)).alloc (.cells #[.bool sb2, .slice bo2 kb2 cb2] 25)) w2.heap.size (.bool sa2) (.slice ao2 ka2 ca2)) := ⟨(Hb.new _ _ _ _ rfl).more _⟩
    have HBx2 : Kept (Hz ((w2.alloc (.cells #[.bool sa2, .slice ao2 ka2 ca2] 30)).alloc (.cells #[.bool sb2, .slice bo2 kb2 cb2] 25)) (w2.heap.size + 1) (.bool sb2) (.slice bo2 kb2 cb2)) := ⟨Hz.new _ _ _ _ (by simp)⟩
    have HAL2 := Kept.mk hal2
    clear hal2
    clear HBa2 HBx2 HY2 HAL2
    go_wp2_with fail
    refine (awake_any _).mono ?_
    rintro e w3 ⟨hb3, he3⟩
    subst he3
    replace HW := Kept.mk (HW.out.trans (Below.mono hb3 HW.out.size))
    clear hb3 
    go_wp2
    go_ret
    exact ⟨HW.out, rfl⟩
  · skip
    obtain ⟨z1, hz1, hl1, hsm1, hI1, hZ1⟩ := HY1.out rfl
    have HZ1 := Kept.mk hz1
    have HL1 := Kept.mk hl1
    have HSM1 := Kept.mk hsm1
    have HIa := Kept.mk (hI1.below HAL1.out)
    have HIx := Kept.mk (hZ1.below HAL1.out)
    have HBa := HBa1
    have HBx := HBx1
    clear hz1 hl1 hsm1 hI1 hZ1 HBa1 HBx1 HY1 HAL1
    go_wp2_with fail
    refine (whole_any t _ ht).mono ?_
    rintro e w2 ⟨hb2, sa2, ao2, ka2, ca2, sb2, bo2, kb2, cb2, ok2, rfl, hy2⟩
    replace HBa := Kept.mk (HBa.out.below hb2)
    replace HIa := Kept.mk (HIa.out.below hb2)
    replace HBx := Kept.mk (HBx.out.below hb2)
    replace HIx := Kept.mk (HIx.out.below hb2)
    replace HW := Kept.mk (HW.out.trans (Below.mono hb2 HW.out.size))
    have HY2 := Kept.mk hy2
    clear hb2 hy2
    have hal2 : Below w2.heap.size w2 ((w2.alloc (.cells #[.bool sa2, .slice ao2 ka2 ca2] 30)).alloc (.cells #[.bool sb2, .slice bo2 kb2 cb2] 25)) := ((Below.refl _ _).alloc (Nat.le_refl _) _).alloc (by simp) _
    replace HBa := Kept.mk (HBa.out.below hal2)
    replace HIa := Kept.mk (HIa.out.below hal2)
    replace HBx := Kept.mk (HBx.out.below hal2)
    replace HIx := Kept.mk (HIx.out.below hal2)
    replace HW := Kept.mk (HW.out.trans (Below.mono hal2 HW.out.size))
    have HBa2 : Kept (Hb ((w2.alloc (.cells #[.bool sa2, .slice ao2 ka2 ca2] 30)).alloc (.cells #[.bool sb2, .slice bo2 kb2 cb2] 25)) w2.heap.size (.bool sa2) (.slice ao2 ka2 ca2)) := ⟨(Hb.new _ _ _ _ rfl).more _⟩
    have HBx2 : Kept (Hz ((w2.alloc (.cells #[.bool sa2, .slice ao2 ka2 ca2] 30)).alloc (.cells #[.bool sb2, .slice bo2 kb2 cb2] 25)) (w2.heap.size + 1) (.bool sb2) (.slice bo2 kb2 cb2)) := ⟨Hz.new _ _ _ _ (by simp)⟩
    have HAL2 := Kept.mk hal2
    clear hal2
    cases ok2
    · skip
      clear HBa2 HBx2 HY2 HAL2
      go_wp2_with fail
      refine (awake_any _).mono ?_
      rintro e w3 ⟨hb3, he3⟩
      subst he3
      replace HBa := Kept.mk (HBa.out.below hb3)
      replace HIa := Kept.mk (HIa.out.below hb3)
      replace HBx := Kept.mk (HBx.out.below hb3)
      replace HIx := Kept.mk (HIx.out.below hb3)
      replace HW := Kept.mk (HW.out.trans (Below.mono hb3 HW.out.size))
      clear hb3 
      go_wp2
      go_ret
      exact ⟨HW.out, rfl⟩
    · skip
      obtain ⟨z2, hz2, hl2, hsm2, hI2, hZ2⟩ := HY2.out rfl
      have HZ2 := Kept.mk hz2
      have HL2 := Kept.mk hl2
      have HSM2 := Kept.mk hsm2
      have HIb := Kept.mk (hI2.below HAL2.out)
      have HIy := Kept.mk (hZ2.below HAL2.out)
      have HBb := HBa2
      have HBy := HBx2
      clear hz2 hl2 hsm2 hI2 hZ2 HBa2 HBx2 HY2 HAL2
      have hσ : Dg.sg z1 z2 = 0 := hcase _ _ HZ1.out HZ2.out
      have hσ2 : Dg.sg z2 z1 = 0 := by rw [sg_swap, hσ]; rfl
      have HS1 := Kept.mk hσ
      have HS2 := Kept.mk hσ2
      clear hσ hσ2
      obtain ⟨G, hG⟩ : ∃ G : Int, (Int.gcd z1 z2 : Int) = G := ⟨_, rfl⟩
      have HG := Kept.mk hG
      clear hG
      go_wp2_with fail
      generalize ((w2.alloc (.cells #[.bool sa2, .slice ao2 ka2 ca2] 30)).alloc (.cells #[.bool sb2, .slice bo2 kb2 cb2] 25)) = ws at *
      have HC1 : Kept (∀ W, Below ws.heap.size ws W → Calls Tryz.prog 33 #[(.agg #[.bool sa1, .slice ao1 ka1 ca1]), (.agg #[.bool sa2, .slice ao2 ka2 ca2])] W (RetV W (.int .i64 0))) := ⟨fun W h => by have hc := cmp_any (HIa.out.below h) (HIb.out.below h); rw [HS1.out] at hc; exact hc⟩
      have HC3 : Kept (∀ W, Below ws.heap.size ws W → Calls Tryz.prog 33 #[(.agg #[.bool sa2, .slice ao2 ka2 ca2]), (.agg #[.bool sa1, .slice ao1 ka1 ca1])] W (RetV W (.int .i64 0))) := ⟨fun W h => by have hc := cmp_any (HIb.out.below h) (HIa.out.below h); rw [HS2.out] at hc; exact hc⟩
      have HC2 : Kept (∀ W, Below ws.heap.size ws W → Calls Tryz.prog 35 #[(.agg #[.bool sb1, .slice bo1 kb1 cb1]), (.agg #[.bool sb2, .slice bo2 kb2 cb2])] W (RetV W (.int .i64 0))) := ⟨fun W h => by have hc := rcmpz_any (HIx.out.below h) (HIy.out.below h) (by decide) (by decide); rw [HS1.out] at hc; exact hc⟩
      have HG1 : Kept (∀ W, Below ws.heap.size ws W → Calls Tryz.prog 36 #[(.agg #[.bool sa1, .slice ao1 ka1 ca1]), (.agg #[.bool sa2, .slice ao2 ka2 ca2])] W (RetInt 625 W G)) := ⟨fun W h => by have hc := igcd_any (HIa.out.below h) (HIb.out.below h) (by decide) (by decide); rw [HG.out] at hc; exact hc⟩
      have HG2 : Kept (∀ W, Below ws.heap.size ws W → Calls Tryz.prog 37 #[(.agg #[.bool sb1, .slice bo1 kb1 cb1]), (.agg #[.bool sb2, .slice bo2 kb2 cb2])] W (RetZ 701 W G)) := ⟨fun W h => by have hc := rgcdz_any (HIx.out.below h) (HIy.out.below h) (by decide) (by decide); rw [HG.out] at hc; exact hc⟩
      have HIS : Kept (∀ W v u, Below ws.heap.size ws W → IntV 625 W v G → ZV 701 W u G → Calls Tryz.prog 27 #[v, u] W (RetV W (.bool true))) := ⟨fun W v u _ h h' => is_any h h' (by decide) (by decide)⟩
      obtain ⟨i0a, i1a, -, -⟩ := two_cells HBa.out
      obtain ⟨i0b, i1b, -, -⟩ := two_cells HBb.out
      obtain ⟨i0x, i1x, -, -⟩ := two_cells HBx.out
      obtain ⟨i0y, i1y, -, -⟩ := two_cells HBy.out
      refine wp_region_held_drew (S := fun w' => w'.cell? ⟨w1.heap.size, 0, none⟩ = some (.bool sa1) ∧ w'.cell? ⟨w1.heap.size, 1, none⟩ = some (.slice ao1 ka1 ca1) ∧ w'.cell? ⟨w2.heap.size, 0, none⟩ = some (.bool sa2) ∧ w'.cell? ⟨w2.heap.size, 1, none⟩ = some (.slice ao2 ka2 ca2) ∧ w'.cell? ⟨(w1.heap.size + 1), 0, none⟩ = some (.bool sb1) ∧ w'.cell? ⟨(w1.heap.size + 1), 1, none⟩ = some (.slice bo1 kb1 cb1) ∧ w'.cell? ⟨(w2.heap.size + 1), 0, none⟩ = some (.bool sb2) ∧ w'.cell? ⟨(w2.heap.size + 1), 1, none⟩ = some (.slice bo2 kb2 cb2)) (by kernel_rfl) ?_ (fun hHeld => ?_)
      · exact ⟨i0a, i1a, i0b, i1b, i0x, i1x, i0y, i1y⟩
      refine wpAnyH_take (i := 0) (v := ?_) rfl (by kernel_rfl) (by kernel_rfl) (by kernel_rfl) (fun _ _ _ h => h) (Or.inl ⟨by rfl, ?_⟩) (by assumption) ?_
      rotate_left
      · (intro w hSw; (try dsimp only at hSw); go_simp; (try with_reducible rfl))
      try simp only [Act.put, List.getElem_toArray, List.getElem_cons_succ, List.getElem_cons_zero, List.setIfInBounds_toArray, List.set_cons_zero, List.set_cons_succ]
      refine wpAnyH_take (i := 1) (v := ?_) rfl (by kernel_rfl) (by kernel_rfl) (by kernel_rfl) (fun _ _ _ h => h) (Or.inl ⟨by rfl, ?_⟩) (by assumption) ?_
      rotate_left
      · (intro w hSw; (try dsimp only at hSw); go_simp; (try with_reducible rfl))
      try simp only [Act.put, List.getElem_toArray, List.getElem_cons_succ, List.getElem_cons_zero, List.setIfInBounds_toArray, List.set_cons_zero, List.set_cons_succ]
      refine wpAnyH_take (i := 3) (v := ?_) rfl (by kernel_rfl) (by kernel_rfl) (by kernel_rfl) (fun _ _ _ h => h) (Or.inl ⟨by rfl, ?_⟩) (by assumption) ?_
      rotate_left
      · (intro w hSw; (try dsimp only at hSw); go_simp; (try with_reducible rfl))
      try simp only [Act.put, List.getElem_toArray, List.getElem_cons_succ, List.getElem_cons_zero, List.setIfInBounds_toArray, List.set_cons_zero, List.set_cons_succ]
      refine wpAnyH_take (i := 4) (v := ?_) rfl (by kernel_rfl) (by kernel_rfl) (by kernel_rfl) (fun _ _ _ h => h) (Or.inl ⟨by rfl, ?_⟩) (by assumption) ?_
      rotate_left
      · (intro w hSw; (try dsimp only at hSw); go_simp; (try with_reducible rfl))
      try simp only [Act.put, List.getElem_toArray, List.getElem_cons_succ, List.getElem_cons_zero, List.setIfInBounds_toArray, List.set_cons_zero, List.set_cons_succ]
      refine wpAnyH_ready (rs := [2]) (by kernel_rfl) (by simp) ?_
      refine AllReadyH.cons rfl (fun K hK => ?_) AllReadyH.nil
      go_simp
      refine (HC1.out _ ?h1).mono ?_
      case h1 => exact ((Bxs.start ws).drew).1
      rintro e w1' ⟨hb1, rfl⟩
      have hy1 := Bxs.below ((Bxs.start ws).drew) hb1
      obtain ⟨j0a, j1a, -, -⟩ := two_cells (HBa.out.below hy1.1)
      obtain ⟨j0b, j1b, -, -⟩ := two_cells (HBb.out.below hy1.1)
      obtain ⟨j0x, j1x, -, -⟩ := two_cells (HBx.out.below hy1.1)
      obtain ⟨j0y, j1y, -, -⟩ := two_cells (HBy.out.below hy1.1)
      refine hK.out _ _ ?_ (fun hHeld => ?_)
      · exact ⟨j0a, j1a, j0b, j1b, j0x, j1x, j0y, j1y⟩
      clear hK K
      try simp only [Act.put, List.getElem_toArray, List.getElem_cons_succ, List.getElem_cons_zero, List.setIfInBounds_toArray, List.set_cons_zero, List.set_cons_succ]
      refine wpAnyH_ready (rs := [5]) (by kernel_rfl) (by simp) ?_
      refine AllReadyH.cons rfl (fun K hK => ?_) AllReadyH.nil
      go_simp
      refine (HC2.out _ ?h1).mono ?_
      case h1 => exact hy1.1
      rintro e w2' ⟨hb2, rfl⟩
      have hy2 := Bxs.below hy1 hb2
      obtain ⟨k0a, k1a, -, -⟩ := two_cells (HBa.out.below hy2.1)
      obtain ⟨k0b, k1b, -, -⟩ := two_cells (HBb.out.below hy2.1)
      obtain ⟨k0x, k1x, -, -⟩ := two_cells (HBx.out.below hy2.1)
      obtain ⟨k0y, k1y, -, -⟩ := two_cells (HBy.out.below hy2.1)
      refine hK.out _ _ ?_ (fun hHeld => ?_)
      · exact ⟨k0a, k1a, k0b, k1b, k0x, k1x, k0y, k1y⟩
      clear hK K
      try simp only [Act.put, List.getElem_toArray, List.getElem_cons_succ, List.getElem_cons_zero, List.setIfInBounds_toArray, List.set_cons_zero, List.set_cons_succ]
      refine wpAnyH_take (i := 6) (v := ?_) rfl (by kernel_rfl) (by kernel_rfl) (by kernel_rfl) (fun _ _ _ h => h) (Or.inl ⟨by rfl, ?_⟩) (by assumption) ?_
      rotate_left
      · (intro w hSw; (try dsimp only at hSw); go_simp; (try with_reducible rfl))
      try simp only [Act.put, List.getElem_toArray, List.getElem_cons_succ, List.getElem_cons_zero, List.setIfInBounds_toArray, List.set_cons_zero, List.set_cons_succ]
      refine wpAnyH_take (i := 7) (v := ?_) rfl (by kernel_rfl) (by kernel_rfl) (by kernel_rfl) (fun _ _ _ h => h) (Or.inl ⟨by rfl, ?_⟩) (by assumption) ?_
      rotate_left
      · (intro w hSw; (try dsimp only at hSw); go_simp; (try with_reducible rfl))
      try simp only [Act.put, List.getElem_toArray, List.getElem_cons_succ, List.getElem_cons_zero, List.setIfInBounds_toArray, List.set_cons_zero, List.set_cons_succ]
      refine wpAnyH_take (i := 8) (v := ?_) rfl (by kernel_rfl) (by kernel_rfl) (by kernel_rfl) (fun _ _ _ h => h) (Or.inl ⟨by rfl, ?_⟩) (by assumption) ?_
      rotate_left
      · (intro w hSw; (try dsimp only at hSw); go_simp; (try with_reducible rfl))
      try simp only [Act.put, List.getElem_toArray, List.getElem_cons_succ, List.getElem_cons_zero, List.setIfInBounds_toArray, List.set_cons_zero, List.set_cons_succ]
      refine wpAnyH_take (i := 9) (v := ?_) rfl (by kernel_rfl) (by kernel_rfl) (by kernel_rfl) (fun _ _ _ h => h) (Or.inl ⟨by rfl, ?_⟩) (by assumption) ?_
      rotate_left
      · (intro w hSw; (try dsimp only at hSw); go_simp; (try with_reducible rfl))
      try simp only [Act.put, List.getElem_toArray, List.getElem_cons_succ, List.getElem_cons_zero, List.setIfInBounds_toArray, List.set_cons_zero, List.set_cons_succ]
      refine wpAnyH_take (i := 11) (v := ?_) rfl (by kernel_rfl) (by kernel_rfl) (by kernel_rfl) (fun _ _ _ h => h) (Or.inl ⟨by rfl, ?_⟩) (by assumption) ?_
      rotate_left
      · (intro w hSw; (try dsimp only at hSw); go_simp; (try with_reducible rfl))
      try simp only [Act.put, List.getElem_toArray, List.getElem_cons_succ, List.getElem_cons_zero, List.setIfInBounds_toArray, List.set_cons_zero, List.set_cons_succ]
      refine wpAnyH_take (i := 12) (v := ?_) rfl (by kernel_rfl) (by kernel_rfl) (by kernel_rfl) (fun _ _ _ h => h) (Or.inl ⟨by rfl, ?_⟩) (by assumption) ?_
      rotate_left
      · (intro w hSw; (try dsimp only at hSw); go_simp; (try with_reducible rfl))
      try simp only [Act.put, List.getElem_toArray, List.getElem_cons_succ, List.getElem_cons_zero, List.setIfInBounds_toArray, List.set_cons_zero, List.set_cons_succ]
      refine wpAnyH_ready (rs := [10]) (by kernel_rfl) (by simp) ?_
      refine AllReadyH.cons rfl (fun K hK => ?_) AllReadyH.nil
      go_simp
      refine (HC3.out _ ?h1).mono ?_
      case h1 => exact hy2.1
      rintro e w3' ⟨hb3, rfl⟩
      have hy3 := Bxs.below hy2 hb3
      obtain ⟨l0a, l1a, -, -⟩ := two_cells (HBa.out.below hy3.1)
      obtain ⟨l0b, l1b, -, -⟩ := two_cells (HBb.out.below hy3.1)
      obtain ⟨l0x, l1x, -, -⟩ := two_cells (HBx.out.below hy3.1)
      obtain ⟨l0y, l1y, -, -⟩ := two_cells (HBy.out.below hy3.1)
      refine hK.out _ _ ?_ (fun hHeld => ?_)
      · exact ⟨l0a, l1a, l0b, l1b, l0x, l1x, l0y, l1y⟩
      clear hK K
      try simp only [Act.put, List.getElem_toArray, List.getElem_cons_succ, List.getElem_cons_zero, List.setIfInBounds_toArray, List.set_cons_zero, List.set_cons_succ]
      refine wpAnyH_ready (rs := [13]) (by kernel_rfl) (by simp) ?_
      refine AllReadyH.cons rfl (fun K hK => ?_) AllReadyH.nil
      go_simp
      refine (HC2.out _ ?h1).mono ?_
      case h1 => exact hy3.1
      rintro e w4' ⟨hb4, rfl⟩
      have hy4 := Bxs.below hy3 hb4
      obtain ⟨m0a, m1a, -, -⟩ := two_cells (HBa.out.below hy4.1)
      obtain ⟨m0b, m1b, -, -⟩ := two_cells (HBb.out.below hy4.1)
      obtain ⟨m0x, m1x, -, -⟩ := two_cells (HBx.out.below hy4.1)
      obtain ⟨m0y, m1y, -, -⟩ := two_cells (HBy.out.below hy4.1)
      refine hK.out _ _ ?_ (fun hHeld => ?_)
      · exact ⟨m0a, m1a, m0b, m1b, m0x, m1x, m0y, m1y⟩
      clear hK K
      try simp only [Act.put, List.getElem_toArray, List.getElem_cons_succ, List.getElem_cons_zero, List.setIfInBounds_toArray, List.set_cons_zero, List.set_cons_succ]
      refine wpAnyH_take (i := 14) (v := ?_) rfl (by kernel_rfl) (by kernel_rfl) (by kernel_rfl) (fun _ _ _ h => h) (Or.inl ⟨by rfl, ?_⟩) (by assumption) ?_
      rotate_left
      · (intro w hSw; (try dsimp only at hSw); go_simp; (try with_reducible rfl))
      try simp only [Act.put, List.getElem_toArray, List.getElem_cons_succ, List.getElem_cons_zero, List.setIfInBounds_toArray, List.set_cons_zero, List.set_cons_succ]
      refine wpAnyH_take (i := 15) (v := ?_) rfl (by kernel_rfl) (by kernel_rfl) (by kernel_rfl) (fun _ _ _ h => h) (Or.inl ⟨by rfl, ?_⟩) (by assumption) ?_
      rotate_left
      · (intro w hSw; (try dsimp only at hSw); go_simp; (try with_reducible rfl))
      try simp only [Act.put, List.getElem_toArray, List.getElem_cons_succ, List.getElem_cons_zero, List.setIfInBounds_toArray, List.set_cons_zero, List.set_cons_succ]
      refine wpAnyH_take (i := 16) (v := ?_) rfl (by kernel_rfl) (by kernel_rfl) (by kernel_rfl) (fun _ _ _ h => h) (Or.inl ⟨by rfl, ?_⟩) (by assumption) ?_
      rotate_left
      · (intro w hSw; (try dsimp only at hSw); go_simp; (try with_reducible rfl))
      try simp only [Act.put, List.getElem_toArray, List.getElem_cons_succ, List.getElem_cons_zero, List.setIfInBounds_toArray, List.set_cons_zero, List.set_cons_succ]
      refine wpAnyH_take (i := 17) (v := ?_) rfl (by kernel_rfl) (by kernel_rfl) (by kernel_rfl) (fun _ _ _ h => h) (Or.inl ⟨by rfl, ?_⟩) (by assumption) ?_
      rotate_left
      · (intro w hSw; (try dsimp only at hSw); go_simp; (try with_reducible rfl))
      try simp only [Act.put, List.getElem_toArray, List.getElem_cons_succ, List.getElem_cons_zero, List.setIfInBounds_toArray, List.set_cons_zero, List.set_cons_succ]
      refine wpAnyH_take (i := 18) (v := ?_) rfl (by kernel_rfl) (by kernel_rfl) (by kernel_rfl) (fun _ _ _ h => h) (Or.inl ⟨by rfl, ?_⟩) (by assumption) ?_
      rotate_left
      · (intro w hSw; (try dsimp only at hSw); go_simp; (try with_reducible rfl))
      try simp only [Act.put, List.getElem_toArray, List.getElem_cons_succ, List.getElem_cons_zero, List.setIfInBounds_toArray, List.set_cons_zero, List.set_cons_succ]
      refine wpAnyH_take (i := 19) (v := ?_) rfl (by kernel_rfl) (by kernel_rfl) (by kernel_rfl) (fun _ _ _ h => h) (Or.inl ⟨by rfl, ?_⟩) (by assumption) ?_
      rotate_left
      · (intro w hSw; (try dsimp only at hSw); go_simp; (try with_reducible rfl))
      try simp only [Act.put, List.getElem_toArray, List.getElem_cons_succ, List.getElem_cons_zero, List.setIfInBounds_toArray, List.set_cons_zero, List.set_cons_succ]
      refine wpAnyH_take (i := 21) (v := ?_) rfl (by kernel_rfl) (by kernel_rfl) (by kernel_rfl) (fun _ _ _ h => h) (Or.inl ⟨by rfl, ?_⟩) (by assumption) ?_
      rotate_left
      · (intro w hSw; (try dsimp only at hSw); go_simp; (try with_reducible rfl))
      try simp only [Act.put, List.getElem_toArray, List.getElem_cons_succ, List.getElem_cons_zero, List.setIfInBounds_toArray, List.set_cons_zero, List.set_cons_succ]
      refine wpAnyH_take (i := 22) (v := ?_) rfl (by kernel_rfl) (by kernel_rfl) (by kernel_rfl) (fun _ _ _ h => h) (Or.inl ⟨by rfl, ?_⟩) (by assumption) ?_
      rotate_left
      · (intro w hSw; (try dsimp only at hSw); go_simp; (try with_reducible rfl))
      try simp only [Act.put, List.getElem_toArray, List.getElem_cons_succ, List.getElem_cons_zero, List.setIfInBounds_toArray, List.set_cons_zero, List.set_cons_succ]
      refine wpAnyH_ready (rs := [20]) (by kernel_rfl) (by simp) ?_
      refine AllReadyH.cons rfl (fun K hK => ?_) AllReadyH.nil
      go_simp
      refine (HG1.out _ ?h1).mono ?_
      case h1 => exact hy4.1
      rintro e w5' ⟨hb5, v5', rfl, hV5⟩
      have hy5 := Bxs.below hy4 hb5
      obtain ⟨n0a, n1a, -, -⟩ := two_cells (HBa.out.below hy5.1)
      obtain ⟨n0b, n1b, -, -⟩ := two_cells (HBb.out.below hy5.1)
      obtain ⟨n0x, n1x, -, -⟩ := two_cells (HBx.out.below hy5.1)
      obtain ⟨n0y, n1y, -, -⟩ := two_cells (HBy.out.below hy5.1)
      refine hK.out _ _ ?_ (fun hHeld => ?_)
      · exact ⟨n0a, n1a, n0b, n1b, n0x, n1x, n0y, n1y⟩
      clear hK K
      try simp only [Act.put, List.getElem_toArray, List.getElem_cons_succ, List.getElem_cons_zero, List.setIfInBounds_toArray, List.set_cons_zero, List.set_cons_succ]
      refine wpAnyH_ready (rs := [23]) (by kernel_rfl) (by simp) ?_
      refine AllReadyH.cons rfl (fun K hK => ?_) AllReadyH.nil
      go_simp
      refine (HG2.out _ ?h1).mono ?_
      case h1 => exact hy5.1
      rintro e w6' ⟨hb6, v6', rfl, hV6⟩
      have hy6 := Bxs.below hy5 hb6
      obtain ⟨p0a, p1a, -, -⟩ := two_cells (HBa.out.below hy6.1)
      obtain ⟨p0b, p1b, -, -⟩ := two_cells (HBb.out.below hy6.1)
      obtain ⟨p0x, p1x, -, -⟩ := two_cells (HBx.out.below hy6.1)
      obtain ⟨p0y, p1y, -, -⟩ := two_cells (HBy.out.below hy6.1)
      refine hK.out _ _ ?_ (fun hHeld => ?_)
      · exact ⟨p0a, p1a, p0b, p1b, p0x, p1x, p0y, p1y⟩
      clear hK K
      try simp only [Act.put, List.getElem_toArray, List.getElem_cons_succ, List.getElem_cons_zero, List.setIfInBounds_toArray, List.set_cons_zero, List.set_cons_succ]
      refine wpAnyH_ready (rs := [24]) (by kernel_rfl) (by simp) ?_
      refine AllReadyH.cons rfl (fun K hK => ?_) AllReadyH.nil
      go_simp
      refine (HIS.out _ _ _ ?h1 ?h2 ?h3).mono ?_
      case h1 => exact hy6.1
      case h2 => exact hV5.below hb6
      case h3 => exact hV6
      rintro e w7' ⟨hb7, rfl⟩
      have hy7 := Bxs.below hy6 hb7
      obtain ⟨q0a, q1a, -, -⟩ := two_cells (HBa.out.below hy7.1)
      obtain ⟨q0b, q1b, -, -⟩ := two_cells (HBb.out.below hy7.1)
      obtain ⟨q0x, q1x, -, -⟩ := two_cells (HBx.out.below hy7.1)
      obtain ⟨q0y, q1y, -, -⟩ := two_cells (HBy.out.below hy7.1)
      refine hK.out _ _ ?_ (fun hHeld => ?_)
      · exact ⟨q0a, q1a, q0b, q1b, q0x, q1x, q0y, q1y⟩
      clear hK K
      try simp only [Act.put, List.getElem_toArray, List.getElem_cons_succ, List.getElem_cons_zero, List.setIfInBounds_toArray, List.set_cons_zero, List.set_cons_succ]
      refine wpAnyH_take (i := 25) (v := ?_) rfl (by kernel_rfl) (by kernel_rfl) (by kernel_rfl) (fun _ _ _ h => h) (Or.inl ⟨by rfl, ?_⟩) (by assumption) ?_
      rotate_left
      · (intro w hSw; (try dsimp only at hSw); go_simp; (try with_reducible rfl))
      try simp only [Act.put, List.getElem_toArray, List.getElem_cons_succ, List.getElem_cons_zero, List.setIfInBounds_toArray, List.set_cons_zero, List.set_cons_succ]
      refine wpAnyH_take (i := 26) (v := ?_) rfl (by kernel_rfl) (by kernel_rfl) (by kernel_rfl) (fun _ _ _ h => h) (Or.inl ⟨by rfl, ?_⟩) (by assumption) ?_
      rotate_left
      · (intro w hSw; (try dsimp only at hSw); go_simp; (try with_reducible rfl))
      try simp only [Act.put, List.getElem_toArray, List.getElem_cons_succ, List.getElem_cons_zero, List.setIfInBounds_toArray, List.set_cons_zero, List.set_cons_succ]
      refine wpAnyH_ready (rs := [27]) (by kernel_rfl) (by simp) ?_
      refine AllReadyH.cons rfl (fun K hK => ?_) AllReadyH.nil
      go_simp
      refine (awake_any _).mono ?_
      rintro e w8' ⟨hb8, rfl⟩
      have hy8 := Bxs.below hy7 hb8
      obtain ⟨r0a, r1a, -, -⟩ := two_cells (HBa.out.below hy8.1)
      obtain ⟨r0b, r1b, -, -⟩ := two_cells (HBb.out.below hy8.1)
      obtain ⟨r0x, r1x, -, -⟩ := two_cells (HBx.out.below hy8.1)
      obtain ⟨r0y, r1y, -, -⟩ := two_cells (HBy.out.below hy8.1)
      refine hK.out _ _ ?_ (fun hHeld => ?_)
      · exact ⟨r0a, r1a, r0b, r1b, r0x, r1x, r0y, r1y⟩
      clear hK K
      try simp only [Act.put, List.getElem_toArray, List.getElem_cons_succ, List.getElem_cons_zero, List.setIfInBounds_toArray, List.set_cons_zero, List.set_cons_succ]
      refine wpAnyH_take (i := 28) (v := ?_) rfl (by kernel_rfl) (by kernel_rfl) (by kernel_rfl) (fun _ _ _ h => h) (Or.inl ⟨by rfl, ?_⟩) (by assumption) ?_
      rotate_left
      · (intro w hSw; (try dsimp only at hSw); go_simp; (try with_reducible rfl))
      try simp only [Act.put, List.getElem_toArray, List.getElem_cons_succ, List.getElem_cons_zero, List.setIfInBounds_toArray, List.set_cons_zero, List.set_cons_succ]
      refine wpAnyH_take (i := 29) (v := ?_) rfl (by kernel_rfl) (by kernel_rfl) (by kernel_rfl) (fun _ _ _ h => h) (Or.inl ⟨by rfl, ?_⟩) (by assumption) ?_
      rotate_left
      · (intro w hSw; (try dsimp only at hSw); go_simp; (try with_reducible rfl))
      try simp only [Act.put, List.getElem_toArray, List.getElem_cons_succ, List.getElem_cons_zero, List.setIfInBounds_toArray, List.set_cons_zero, List.set_cons_succ]
      refine wpAnyH_done (by kernel_rfl) ?_ _
      have hfin : Below w.heap.size w w8' := HW.out.trans (hy8.1.mono HW.out.size)
      have HFIN := Kept.mk hfin
      go_wp2
      go_ret
      exact ⟨HFIN.out, rfl⟩
end Go.Proofs.YtblbheilddafbaaGreatDoor
