/-
  Texts of the proof, merged by program: Frc Frcc.
-/
import Derived.Test.YtblbheilddafbaaGreatDoorZRrd
import Derived.Test.YtblbheilddafbaaGreatDoorZFrq
import Derived.Test.YtblbheilddafbaaGreatDoorZ22
import Derived.SizedLaws
import Derived.ChangeMaps5
set_option linter.unusedVariables false
set_option linter.unusedSimpArgs false
namespace Go.Proofs.YtblbheilddafbaaGreatDoor
open Go Go.RowKit
set_option maxRecDepth 20000 in
set_option maxHeartbeats 8000000 in
theorem fracs_le (s : ByteArray) (w : World) (hs : s.size ≤ 140737488355328) (hl : (s.size : Int) ≤ 1000) :
    Calls Tryz.prog 11 #[.string s] w (RetV w (.bool true)) := by
  have HW : Kept (Below w.heap.size w w) := ⟨Below.refl _ _⟩
  have hnot : ∀ (x : Bool) (w : World), (Op.unary .not (.bool x)).run Tryz.prog w = .ok (.bool (!x)) w := fun _ _ => rfl
  have hd13 : decide ((1000 : Int) < s.size) = false := decide_eq_false (by omega)
  have hts : s.size ≤ 1000 := by omega
  have HTL : Kept (s.data.toList.length ≤ 1000) := ⟨by have : s.data.toList.length = s.size := Array.length_toList; omega⟩
  go_enter Tryz.func11, Tryz.ntmps11
  go_wp2_with fail
  refine (rread_any s _ (by omega)).mono ?_
  rintro e w1 ⟨hb1, hc1⟩
  replace HW := Kept.mk (HW.out.trans (hb1.mono HW.out.size))
  clear hb1
  rcases hc1 with ⟨p, q, v1, hpq, hlo, rfl, hQ1⟩ | ⟨hno, rfl⟩
  · skip
    have HPQ := Kept.mk hpq
    have HLO := Kept.mk hlo
    have hq0 := hlo.1
    have hQm : QV 1064 w1 v1 p q := hQ1.mono (by have := HTL.out; omega)
    obtain ⟨s1, o1, k1, c1, s2, o2, k2, c2, rfl, hx1, hx2⟩ := hQm.form
    have hal1 : Below w1.heap.size w1 (w1.alloc (.cells #[.bool s1, .slice o1 k1 c1, .bool s2, .slice o2 k2 c2] 72)) := (Below.refl _ _).alloc (Nat.le_refl _) _
    replace HW := Kept.mk (HW.out.trans (hal1.mono HW.out.size))
    have HBq : Kept (H4 (w1.alloc (.cells #[.bool s1, .slice o1 k1 c1, .bool s2, .slice o2 k2 c2] 72)) w1.heap.size (.bool s1) (.slice o1 k1 c1) (.bool s2) (.slice o2 k2 c2)) := ⟨H4.new _ _ _ _ _ _ rfl⟩
    have HQ := Kept.mk (hQm.below hal1)
    have HX1 := Kept.mk (hx1.below hal1)
    have HX2 := Kept.mk (hx2.below hal1)
    have HSMR : Kept (smR p q = true) := ⟨small_frac hq0 (by rw [← hpq]; exact HTL.out)⟩
    clear hal1 hQ1 hQm hx1 hx2 hpq hlo
    go_wp2_with fail
    refine (parseRat_any s _ (by omega)).mono ?_
    rintro e w2 ⟨hb2, hc2⟩
    replace HW := Kept.mk (HW.out.trans (hb2.mono HW.out.size))
    replace HBq := Kept.mk (HBq.out.below hb2)
    replace HQ := Kept.mk (HQ.out.below hb2)
    replace HX1 := Kept.mk (HX1.out.below hb2)
    replace HX2 := Kept.mk (HX2.out.below hb2)
    clear hb2
    rcases hc2 with ⟨p', q', v2, hpq', hlo', hsm', rfl, hR2⟩ | ⟨p', q', hpq', hlo', hsm', _⟩ | ⟨hno, _⟩
    · skip
      obtain ⟨e1, e2⟩ := decR_inj hlo'.1 hq0 (hpq'.symm.trans HPQ.out)
      subst e1 e2
      have hRm : RatV 41000 w2 v2 p' q' := hR2.mono (by omega)
      obtain ⟨sa, ao, ka, ca, uo, ku, cu, rfl, ra1, ra2, ra3, ra4⟩ := hRm.form
      have hal2 : Below w2.heap.size w2 (w2.alloc (.cells #[.bool sa, .slice ao ka ca, .slice uo ku cu] 76)) := (Below.refl _ _).alloc (Nat.le_refl _) _
      replace HW := Kept.mk (HW.out.trans (hal2.mono HW.out.size))
      replace HBq := Kept.mk (HBq.out.below hal2)
      replace HQ := Kept.mk (HQ.out.below hal2)
      replace HX1 := Kept.mk (HX1.out.below hal2)
      replace HX2 := Kept.mk (HX2.out.below hal2)
      have HBa : Kept (H3 (w2.alloc (.cells #[.bool sa, .slice ao ka ca, .slice uo ku cu] 76)) w2.heap.size (.bool sa) (.slice ao ka ca) (.slice uo ku cu)) := ⟨H3.new _ _ _ _ _ rfl⟩
      have HR := Kept.mk (hRm.below hal2)
      clear hal2 hR2 hRm ra1 ra2 ra3 ra4 hpq' hlo' hsm'
      go_wp2_with fail
      generalize w2.alloc (.cells #[.bool sa, .slice ao ka ca, .slice uo ku cu] 76) = ws at *
      obtain ⟨σ, hσ⟩ : ∃ σ, Dg.sg p' 0 = σ := ⟨_, rfl⟩
      have hss : (σ == σ) = true := by simp
      have htt : (s.toList == s.toList) = true := by simp
      have HSG := Kept.mk hσ
      clear hσ
      have HST : Kept (∀ W, Below ws.heap.size ws W → Calls Tryz.prog 56 #[.agg #[.bool sa, .slice ao ka ca, .slice uo ku cu]] W (RetV W (.string s))) := ⟨fun W h => by have hc := rstring_any (HR.out.below h) hq0 (by decide); rw [← frac_back HPQ.out]; exact hc⟩
      have HNU : Kept (∀ W, Below ws.heap.size ws W → Calls Tryz.prog 57 #[.agg #[.bool sa, .slice ao ka ca, .slice uo ku cu]] W (RetInt 41000 W p')) := ⟨fun W h => num_any (HR.out.below h) (by decide)⟩
      have HDE : Kept (∀ W, Below ws.heap.size ws W → Calls Tryz.prog 58 #[.agg #[.bool sa, .slice ao ka ca, .slice uo ku cu]] W (RetInt 41000 W q')) := ⟨fun W h => den_any (HR.out.below h) hq0 (by decide)⟩
      have HSA : Kept (∀ W, Below ws.heap.size ws W → Calls Tryz.prog 59 #[.agg #[.bool sa, .slice ao ka ca, .slice uo ku cu]] W (RetV W (.int .i64 σ))) := ⟨fun W h => by have hc := rsign_any (HR.out.below h); rw [HSG.out] at hc; exact hc⟩
      have HSQ : Kept (∀ W, Below ws.heap.size ws W → Calls Tryz.prog 60 #[.agg #[.bool s1, .slice o1 k1 c1, .bool s2, .slice o2 k2 c2]] W (RetV W (.int .i64 σ))) := ⟨fun W h => by have hc := rsgn_any (HQ.out.below h); rw [HSG.out] at hc; exact hc⟩
      have HNE : Kept (∀ W, Below ws.heap.size ws W → Calls Tryz.prog 62 #[.agg #[.bool sa, .slice ao ka ca, .slice uo ku cu]] W (RetRat 41000 W (-p') q')) := ⟨fun W h => rneg_any (HR.out.below h) (by decide)⟩
      have HFR : Kept (∀ W, Below ws.heap.size ws W → Calls Tryz.prog 64 #[.int .i64 0, .int .i64 1] W (RetQ 64 W 0 1)) := ⟨fun W h => rfrac_any 0 1 W (by decide) (by decide) (by decide) (by decide) (by decide)⟩
      have HIS1 : Kept (∀ W v, Below ws.heap.size ws W → IntV 41000 W v p' → Calls Tryz.prog 27 #[v, .agg #[.bool s1, .slice o1 k1 c1]] W (RetV W (.bool true))) := ⟨fun W v h hv => is_any hv (HX1.out.below h) (by decide) (by decide)⟩
      have HIS2 : Kept (∀ W v, Below ws.heap.size ws W → IntV 41000 W v q' → Calls Tryz.prog 27 #[v, .agg #[.bool s2, .slice o2 k2 c2]] W (RetV W (.bool true))) := ⟨fun W v h hv => is_any hv (HX2.out.below h) (by decide) (by decide)⟩
      have HMI : Kept (∀ W u, Below ws.heap.size ws W → QV 64 W u 0 1 → Calls Tryz.prog 63 #[u, .agg #[.bool s1, .slice o1 k1 c1, .bool s2, .slice o2 k2 c2]] W (RetQ 2129 W (-p') q')) := ⟨fun W u h hu => by have hc := rminus_any (hu.mono (show 64 ≤ 1064 by decide)) (HQ.out.below h) (by omega) (by decide); have e := fr_low (low_neg HLO.out); rw [Int.zero_mul, Int.mul_one, Int.one_mul, Int.zero_sub, e.1, e.2] at hc; exact hc⟩
      have HEQ : Kept (∀ W v u, Below ws.heap.size ws W → RatV 41000 W v (-p') q' → QV 2129 W u (-p') q' → Calls Tryz.prog 61 #[v, u] W (RetV W (.bool true))) := ⟨fun W v u _ hv hu => requal_any hv hu hq0 (by decide) (by decide)⟩
      obtain ⟨i0, i1, i2, -⟩ := three_cells (HBa.out)
      obtain ⟨i3, i4, i5, i6, -⟩ := four_cells (HBq.out)
      refine wp_region_held_drew (S := fun w' => w'.cell? ⟨w2.heap.size, 0, none⟩ = some (.bool sa) ∧ w'.cell? ⟨w2.heap.size, 1, none⟩ = some (.slice ao ka ca) ∧ w'.cell? ⟨w2.heap.size, 2, none⟩ = some (.slice uo ku cu) ∧ w'.cell? ⟨w1.heap.size, 0, none⟩ = some (.bool s1) ∧ w'.cell? ⟨w1.heap.size, 1, none⟩ = some (.slice o1 k1 c1) ∧ w'.cell? ⟨w1.heap.size, 2, none⟩ = some (.bool s2) ∧ w'.cell? ⟨w1.heap.size, 3, none⟩ = some (.slice o2 k2 c2)) (by kernel_rfl) ?_ (fun hHeld => ?_)
      · exact ⟨i0, i1, i2, i3, i4, i5, i6⟩
      refine wpAnyH_take (i := 0) (v := ?_) rfl (by kernel_rfl) (by kernel_rfl) (by kernel_rfl) (fun _ _ _ h => h) (Or.inl ⟨by rfl, ?_⟩) (by assumption) ?_
      rotate_left
      · (intro w hSw; (try dsimp only at hSw); go_simp; (try with_reducible rfl))
      try simp only [Act.put, List.getElem_toArray, List.getElem_cons_succ, List.getElem_cons_zero, List.setIfInBounds_toArray, List.set_cons_zero, List.set_cons_succ]
      refine wpAnyH_take (i := 1) (v := ?_) rfl (by kernel_rfl) (by kernel_rfl) (by kernel_rfl) (fun _ _ _ h => h) (Or.inl ⟨by rfl, ?_⟩) (by assumption) ?_
      rotate_left
      · (intro w hSw; (try dsimp only at hSw); go_simp; (try with_reducible rfl))
      try simp only [Act.put, List.getElem_toArray, List.getElem_cons_succ, List.getElem_cons_zero, List.setIfInBounds_toArray, List.set_cons_zero, List.set_cons_succ]
      refine wpAnyH_take (i := 2) (v := ?_) rfl (by kernel_rfl) (by kernel_rfl) (by kernel_rfl) (fun _ _ _ h => h) (Or.inl ⟨by rfl, ?_⟩) (by assumption) ?_
      rotate_left
      · (intro w hSw; (try dsimp only at hSw); go_simp; (try with_reducible rfl))
      try simp only [Act.put, List.getElem_toArray, List.getElem_cons_succ, List.getElem_cons_zero, List.setIfInBounds_toArray, List.set_cons_zero, List.set_cons_succ]
      refine wpAnyH_take (i := 3) (v := ?_) rfl (by kernel_rfl) (by kernel_rfl) (by kernel_rfl) (fun _ _ _ h => h) (Or.inl ⟨by rfl, ?_⟩) (by assumption) ?_
      rotate_left
      · (intro w hSw; (try dsimp only at hSw); go_simp; (try with_reducible rfl))
      try simp only [Act.put, List.getElem_toArray, List.getElem_cons_succ, List.getElem_cons_zero, List.setIfInBounds_toArray, List.set_cons_zero, List.set_cons_succ]
      refine wpAnyH_take (i := 5) (v := ?_) rfl (by kernel_rfl) (by kernel_rfl) (by kernel_rfl) (fun _ _ _ h => h) (Or.inl ⟨by rfl, ?_⟩) (by assumption) ?_
      rotate_left
      · (intro w hSw; (try dsimp only at hSw); go_simp; (try with_reducible rfl))
      try simp only [Act.put, List.getElem_toArray, List.getElem_cons_succ, List.getElem_cons_zero, List.setIfInBounds_toArray, List.set_cons_zero, List.set_cons_succ]
      refine wpAnyH_ready (rs := [4]) (by kernel_rfl) (by simp) ?_
      refine AllReadyH.cons rfl (fun K hK => ?_) AllReadyH.nil
      go_simp
      refine (HST.out _ ?h1).mono ?_
      case h1 => exact ((Bxs.start ws).drew).1
      rintro e w1' ⟨hb1, rfl⟩
      have hy1 := Bxs.below ((Bxs.start ws).drew) hb1
      obtain ⟨j0, j1, j2, -⟩ := three_cells (HBa.out.below hy1.1)
      obtain ⟨j3, j4, j5, j6, -⟩ := four_cells (HBq.out.below hy1.1)
      refine hK.out _ _ ?_ (fun hHeld => ?_)
      · exact ⟨j0, j1, j2, j3, j4, j5, j6⟩
      clear hK K
      try simp only [Act.put, List.getElem_toArray, List.getElem_cons_succ, List.getElem_cons_zero, List.setIfInBounds_toArray, List.set_cons_zero, List.set_cons_succ]
      refine wpAnyH_take (i := 6) (v := ?_) rfl (by kernel_rfl) (by kernel_rfl) (by kernel_rfl) (fun _ _ _ h => h) (Or.inl ⟨by rfl, ?_⟩) (by assumption) ?_
      rotate_left
      · (intro w hSw; (try dsimp only at hSw); go_simp; (try with_reducible rfl))
      try simp only [Act.put, List.getElem_toArray, List.getElem_cons_succ, List.getElem_cons_zero, List.setIfInBounds_toArray, List.set_cons_zero, List.set_cons_succ]
      refine wpAnyH_take (i := 7) (v := ?_) rfl (by kernel_rfl) (by kernel_rfl) (by kernel_rfl) (fun _ _ _ h => h) (Or.inl ⟨by rfl, ?_⟩) (by assumption) ?_
      rotate_left
      · (intro w hSw; (try dsimp only at hSw); go_simp; (try with_reducible rfl))
      try simp only [Act.put, List.getElem_toArray, List.getElem_cons_succ, List.getElem_cons_zero, List.setIfInBounds_toArray, List.set_cons_zero, List.set_cons_succ]
      refine wpAnyH_take (i := 8) (v := ?_) rfl (by kernel_rfl) (by kernel_rfl) (by kernel_rfl) (fun _ _ _ h => h) (Or.inl ⟨by rfl, ?_⟩) (by assumption) ?_
      rotate_left
      · (intro w hSw; (try dsimp only at hSw); go_simp; (try with_reducible rfl))
      try simp only [Act.put, List.getElem_toArray, List.getElem_cons_succ, List.getElem_cons_zero, List.setIfInBounds_toArray, List.set_cons_zero, List.set_cons_succ]
      refine wpAnyH_take (i := 9) (v := ?_) rfl (by kernel_rfl) (by kernel_rfl) (by kernel_rfl) (fun _ _ _ h => h) (Or.inl ⟨by rfl, ?_⟩) (by assumption) ?_
      rotate_left
      · (intro w hSw; (try dsimp only at hSw); go_simp; (try with_reducible rfl))
      try simp only [Act.put, List.getElem_toArray, List.getElem_cons_succ, List.getElem_cons_zero, List.setIfInBounds_toArray, List.set_cons_zero, List.set_cons_succ]
      refine wpAnyH_take (i := 11) (v := ?_) rfl (by kernel_rfl) (by kernel_rfl) (by kernel_rfl) (fun _ _ _ h => h) (Or.inl ⟨by rfl, ?_⟩) (by assumption) ?_
      rotate_left
      · (intro w hSw; (try dsimp only at hSw); go_simp; (try with_reducible rfl))
      try simp only [Act.put, List.getElem_toArray, List.getElem_cons_succ, List.getElem_cons_zero, List.setIfInBounds_toArray, List.set_cons_zero, List.set_cons_succ]
      refine wpAnyH_take (i := 12) (v := ?_) rfl (by kernel_rfl) (by kernel_rfl) (by kernel_rfl) (fun _ _ _ h => h) (Or.inl ⟨by rfl, ?_⟩) (by assumption) ?_
      rotate_left
      · (intro w hSw; (try dsimp only at hSw); go_simp; (try with_reducible rfl))
      try simp only [Act.put, List.getElem_toArray, List.getElem_cons_succ, List.getElem_cons_zero, List.setIfInBounds_toArray, List.set_cons_zero, List.set_cons_succ]
      refine wpAnyH_ready (rs := [10]) (by kernel_rfl) (by simp) ?_
      refine AllReadyH.cons rfl (fun K hK => ?_) AllReadyH.nil
      go_simp
      refine (HNU.out _ ?h1).mono ?_
      case h1 => exact hy1.1
      rintro e w2' ⟨hb2, v2', rfl, hV2⟩
      have hy2 := Bxs.below hy1 hb2
      obtain ⟨k0, k1, k2, -⟩ := three_cells (HBa.out.below hy2.1)
      obtain ⟨k3, k4, k5, k6, -⟩ := four_cells (HBq.out.below hy2.1)
      refine hK.out _ _ ?_ (fun hHeld => ?_)
      · exact ⟨k0, k1, k2, k3, k4, k5, k6⟩
      clear hK K
      try simp only [Act.put, List.getElem_toArray, List.getElem_cons_succ, List.getElem_cons_zero, List.setIfInBounds_toArray, List.set_cons_zero, List.set_cons_succ]
      refine wpAnyH_ready (rs := [13]) (by kernel_rfl) (by simp) ?_
      refine AllReadyH.cons rfl (fun K hK => ?_) AllReadyH.nil
      go_simp
      refine (HIS1.out _ _ ?h1 ?h2).mono ?_
      case h1 => exact hy2.1
      case h2 => exact hV2
      rintro e w3' ⟨hb3, rfl⟩
      have hy3 := Bxs.below hy2 hb3
      obtain ⟨l0, l1, l2, -⟩ := three_cells (HBa.out.below hy3.1)
      obtain ⟨l3, l4, l5, l6, -⟩ := four_cells (HBq.out.below hy3.1)
      refine hK.out _ _ ?_ (fun hHeld => ?_)
      · exact ⟨l0, l1, l2, l3, l4, l5, l6⟩
      clear hK K
      try simp only [Act.put, List.getElem_toArray, List.getElem_cons_succ, List.getElem_cons_zero, List.setIfInBounds_toArray, List.set_cons_zero, List.set_cons_succ]
      refine wpAnyH_take (i := 14) (v := ?_) rfl (by kernel_rfl) (by kernel_rfl) (by kernel_rfl) (fun _ _ _ h => h) (Or.inl ⟨by rfl, ?_⟩) (by assumption) ?_
      rotate_left
      · (intro w hSw; (try dsimp only at hSw); go_simp; (try with_reducible rfl))
      try simp only [Act.put, List.getElem_toArray, List.getElem_cons_succ, List.getElem_cons_zero, List.setIfInBounds_toArray, List.set_cons_zero, List.set_cons_succ]
      refine wpAnyH_take (i := 15) (v := ?_) rfl (by kernel_rfl) (by kernel_rfl) (by kernel_rfl) (fun _ _ _ h => h) (Or.inl ⟨by rfl, ?_⟩) (by assumption) ?_
      rotate_left
      · (intro w hSw; (try dsimp only at hSw); go_simp; (try with_reducible rfl))
      try simp only [Act.put, List.getElem_toArray, List.getElem_cons_succ, List.getElem_cons_zero, List.setIfInBounds_toArray, List.set_cons_zero, List.set_cons_succ]
      refine wpAnyH_take (i := 16) (v := ?_) rfl (by kernel_rfl) (by kernel_rfl) (by kernel_rfl) (fun _ _ _ h => h) (Or.inl ⟨by rfl, ?_⟩) (by assumption) ?_
      rotate_left
      · (intro w hSw; (try dsimp only at hSw); go_simp; (try with_reducible rfl))
      try simp only [Act.put, List.getElem_toArray, List.getElem_cons_succ, List.getElem_cons_zero, List.setIfInBounds_toArray, List.set_cons_zero, List.set_cons_succ]
      refine wpAnyH_take (i := 18) (v := ?_) rfl (by kernel_rfl) (by kernel_rfl) (by kernel_rfl) (fun _ _ _ h => h) (Or.inl ⟨by rfl, ?_⟩) (by assumption) ?_
      rotate_left
      · (intro w hSw; (try dsimp only at hSw); go_simp; (try with_reducible rfl))
      try simp only [Act.put, List.getElem_toArray, List.getElem_cons_succ, List.getElem_cons_zero, List.setIfInBounds_toArray, List.set_cons_zero, List.set_cons_succ]
      refine wpAnyH_take (i := 19) (v := ?_) rfl (by kernel_rfl) (by kernel_rfl) (by kernel_rfl) (fun _ _ _ h => h) (Or.inl ⟨by rfl, ?_⟩) (by assumption) ?_
      rotate_left
      · (intro w hSw; (try dsimp only at hSw); go_simp; (try with_reducible rfl))
      try simp only [Act.put, List.getElem_toArray, List.getElem_cons_succ, List.getElem_cons_zero, List.setIfInBounds_toArray, List.set_cons_zero, List.set_cons_succ]
      refine wpAnyH_ready (rs := [17]) (by kernel_rfl) (by simp) ?_
      refine AllReadyH.cons rfl (fun K hK => ?_) AllReadyH.nil
      go_simp
      refine (HDE.out _ ?h1).mono ?_
      case h1 => exact hy3.1
      rintro e w4' ⟨hb4, v4', rfl, hV4⟩
      have hy4 := Bxs.below hy3 hb4
      obtain ⟨m0, m1, m2, -⟩ := three_cells (HBa.out.below hy4.1)
      obtain ⟨m3, m4, m5, m6, -⟩ := four_cells (HBq.out.below hy4.1)
      refine hK.out _ _ ?_ (fun hHeld => ?_)
      · exact ⟨m0, m1, m2, m3, m4, m5, m6⟩
      clear hK K
      try simp only [Act.put, List.getElem_toArray, List.getElem_cons_succ, List.getElem_cons_zero, List.setIfInBounds_toArray, List.set_cons_zero, List.set_cons_succ]
      refine wpAnyH_ready (rs := [20]) (by kernel_rfl) (by simp) ?_
      refine AllReadyH.cons rfl (fun K hK => ?_) AllReadyH.nil
      go_simp
      refine (HIS2.out _ _ ?h1 ?h2).mono ?_
      case h1 => exact hy4.1
      case h2 => exact hV4
      rintro e w5' ⟨hb5, rfl⟩
      have hy5 := Bxs.below hy4 hb5
      obtain ⟨n0, n1, n2, -⟩ := three_cells (HBa.out.below hy5.1)
      obtain ⟨n3, n4, n5, n6, -⟩ := four_cells (HBq.out.below hy5.1)
      refine hK.out _ _ ?_ (fun hHeld => ?_)
      · exact ⟨n0, n1, n2, n3, n4, n5, n6⟩
      clear hK K
      try simp only [Act.put, List.getElem_toArray, List.getElem_cons_succ, List.getElem_cons_zero, List.setIfInBounds_toArray, List.set_cons_zero, List.set_cons_succ]
      refine wpAnyH_take (i := 21) (v := ?_) rfl (by kernel_rfl) (by kernel_rfl) (by kernel_rfl) (fun _ _ _ h => h) (Or.inl ⟨by rfl, ?_⟩) (by assumption) ?_
      rotate_left
      · (intro w hSw; (try dsimp only at hSw); go_simp; (try with_reducible rfl))
      try simp only [Act.put, List.getElem_toArray, List.getElem_cons_succ, List.getElem_cons_zero, List.setIfInBounds_toArray, List.set_cons_zero, List.set_cons_succ]
      refine wpAnyH_take (i := 22) (v := ?_) rfl (by kernel_rfl) (by kernel_rfl) (by kernel_rfl) (fun _ _ _ h => h) (Or.inl ⟨by rfl, ?_⟩) (by assumption) ?_
      rotate_left
      · (intro w hSw; (try dsimp only at hSw); go_simp; (try with_reducible rfl))
      try simp only [Act.put, List.getElem_toArray, List.getElem_cons_succ, List.getElem_cons_zero, List.setIfInBounds_toArray, List.set_cons_zero, List.set_cons_succ]
      refine wpAnyH_take (i := 23) (v := ?_) rfl (by kernel_rfl) (by kernel_rfl) (by kernel_rfl) (fun _ _ _ h => h) (Or.inl ⟨by rfl, ?_⟩) (by assumption) ?_
      rotate_left
      · (intro w hSw; (try dsimp only at hSw); go_simp; (try with_reducible rfl))
      try simp only [Act.put, List.getElem_toArray, List.getElem_cons_succ, List.getElem_cons_zero, List.setIfInBounds_toArray, List.set_cons_zero, List.set_cons_succ]
      refine wpAnyH_take (i := 25) (v := ?_) rfl (by kernel_rfl) (by kernel_rfl) (by kernel_rfl) (fun _ _ _ h => h) (Or.inl ⟨by rfl, ?_⟩) (by assumption) ?_
      rotate_left
      · (intro w hSw; (try dsimp only at hSw); go_simp; (try with_reducible rfl))
      try simp only [Act.put, List.getElem_toArray, List.getElem_cons_succ, List.getElem_cons_zero, List.setIfInBounds_toArray, List.set_cons_zero, List.set_cons_succ]
      refine wpAnyH_ready (rs := [24]) (by kernel_rfl) (by simp) ?_
      refine AllReadyH.cons rfl (fun K hK => ?_) AllReadyH.nil
      go_simp
      refine (HSA.out _ ?h1).mono ?_
      case h1 => exact hy5.1
      rintro e w6' ⟨hb6, rfl⟩
      have hy6 := Bxs.below hy5 hb6
      obtain ⟨o0, o1, o2, -⟩ := three_cells (HBa.out.below hy6.1)
      obtain ⟨o3, o4, o5, o6, -⟩ := four_cells (HBq.out.below hy6.1)
      refine hK.out _ _ ?_ (fun hHeld => ?_)
      · exact ⟨o0, o1, o2, o3, o4, o5, o6⟩
      clear hK K
      try simp only [Act.put, List.getElem_toArray, List.getElem_cons_succ, List.getElem_cons_zero, List.setIfInBounds_toArray, List.set_cons_zero, List.set_cons_succ]
      refine wpAnyH_ready (rs := [26]) (by kernel_rfl) (by simp) ?_
      refine AllReadyH.cons rfl (fun K hK => ?_) AllReadyH.nil
      go_simp
      refine (HSQ.out _ ?h1).mono ?_
      case h1 => exact hy6.1
      rintro e w7' ⟨hb7, rfl⟩
      have hy7 := Bxs.below hy6 hb7
      obtain ⟨p0, p1, p2, -⟩ := three_cells (HBa.out.below hy7.1)
      obtain ⟨p3, p4, p5, p6, -⟩ := four_cells (HBq.out.below hy7.1)
      refine hK.out _ _ ?_ (fun hHeld => ?_)
      · exact ⟨p0, p1, p2, p3, p4, p5, p6⟩
      clear hK K
      try simp only [Act.put, List.getElem_toArray, List.getElem_cons_succ, List.getElem_cons_zero, List.setIfInBounds_toArray, List.set_cons_zero, List.set_cons_succ]
      refine wpAnyH_take (i := 27) (v := ?_) rfl (by kernel_rfl) (by kernel_rfl) (by kernel_rfl) (fun _ _ _ h => h) (Or.inl ⟨by rfl, ?_⟩) (by assumption) ?_
      rotate_left
      · (intro w hSw; (try dsimp only at hSw); go_simp; (try with_reducible rfl))
      try simp only [Act.put, List.getElem_toArray, List.getElem_cons_succ, List.getElem_cons_zero, List.setIfInBounds_toArray, List.set_cons_zero, List.set_cons_succ]
      refine wpAnyH_take (i := 28) (v := ?_) rfl (by kernel_rfl) (by kernel_rfl) (by kernel_rfl) (fun _ _ _ h => h) (Or.inl ⟨by rfl, ?_⟩) (by assumption) ?_
      rotate_left
      · (intro w hSw; (try dsimp only at hSw); go_simp; (try with_reducible rfl))
      try simp only [Act.put, List.getElem_toArray, List.getElem_cons_succ, List.getElem_cons_zero, List.setIfInBounds_toArray, List.set_cons_zero, List.set_cons_succ]
      refine wpAnyH_take (i := 29) (v := ?_) rfl (by kernel_rfl) (by kernel_rfl) (by kernel_rfl) (fun _ _ _ h => h) (Or.inl ⟨by rfl, ?_⟩) (by assumption) ?_
      rotate_left
      · (intro w hSw; (try dsimp only at hSw); go_simp; (try with_reducible rfl))
      try simp only [Act.put, List.getElem_toArray, List.getElem_cons_succ, List.getElem_cons_zero, List.setIfInBounds_toArray, List.set_cons_zero, List.set_cons_succ]
      refine wpAnyH_take (i := 30) (v := ?_) rfl (by kernel_rfl) (by kernel_rfl) (by kernel_rfl) (fun _ _ _ h => h) (Or.inl ⟨by rfl, ?_⟩) (by assumption) ?_
      rotate_left
      · (intro w hSw; (try dsimp only at hSw); go_simp; (try with_reducible rfl))
      try simp only [Act.put, List.getElem_toArray, List.getElem_cons_succ, List.getElem_cons_zero, List.setIfInBounds_toArray, List.set_cons_zero, List.set_cons_succ]
      refine wpAnyH_take (i := 33) (v := ?_) rfl (by kernel_rfl) (by kernel_rfl) (by kernel_rfl) (fun _ _ _ h => h) (Or.inl ⟨by rfl, ?_⟩) (by assumption) ?_
      rotate_left
      · (intro w hSw; (try dsimp only at hSw); go_simp; (try with_reducible rfl))
      try simp only [Act.put, List.getElem_toArray, List.getElem_cons_succ, List.getElem_cons_zero, List.setIfInBounds_toArray, List.set_cons_zero, List.set_cons_succ]
      refine wpAnyH_ready (rs := [31]) (by kernel_rfl) (by simp) ?_
      refine AllReadyH.cons rfl (fun K hK => ?_) AllReadyH.nil
      go_simp
      refine (HNE.out _ ?h1).mono ?_
      case h1 => exact hy7.1
      rintro e w8' ⟨hb8, v8', rfl, hV8⟩
      have hy8 := Bxs.below hy7 hb8
      obtain ⟨r0, r1, r2, -⟩ := three_cells (HBa.out.below hy8.1)
      obtain ⟨r3, r4, r5, r6, -⟩ := four_cells (HBq.out.below hy8.1)
      refine hK.out _ _ ?_ (fun hHeld => ?_)
      · exact ⟨r0, r1, r2, r3, r4, r5, r6⟩
      clear hK K
      try simp only [Act.put, List.getElem_toArray, List.getElem_cons_succ, List.getElem_cons_zero, List.setIfInBounds_toArray, List.set_cons_zero, List.set_cons_succ]
      refine wpAnyH_ready (rs := [32]) (by kernel_rfl) (by simp) ?_
      refine AllReadyH.cons rfl (fun K hK => ?_) AllReadyH.nil
      go_simp
      refine (HFR.out _ ?h1).mono ?_
      case h1 => exact hy8.1
      rintro e w9' ⟨hb9, v9', rfl, hV9⟩
      have hy9 := Bxs.below hy8 hb9
      obtain ⟨t0, t1, t2, -⟩ := three_cells (HBa.out.below hy9.1)
      obtain ⟨t3, t4, t5, t6, -⟩ := four_cells (HBq.out.below hy9.1)
      refine hK.out _ _ ?_ (fun hHeld => ?_)
      · exact ⟨t0, t1, t2, t3, t4, t5, t6⟩
      clear hK K
      try simp only [Act.put, List.getElem_toArray, List.getElem_cons_succ, List.getElem_cons_zero, List.setIfInBounds_toArray, List.set_cons_zero, List.set_cons_succ]
      refine wpAnyH_ready (rs := [34]) (by kernel_rfl) (by simp) ?_
      refine AllReadyH.cons rfl (fun K hK => ?_) AllReadyH.nil
      go_simp
      refine (HMI.out _ _ ?h1 ?h2).mono ?_
      case h1 => exact hy9.1
      case h2 => exact hV9
      rintro e w10' ⟨hb10, v10', rfl, hV10⟩
      have hy10 := Bxs.below hy9 hb10
      obtain ⟨A0, A1, A2, -⟩ := three_cells (HBa.out.below hy10.1)
      obtain ⟨A3, A4, A5, A6, -⟩ := four_cells (HBq.out.below hy10.1)
      refine hK.out _ _ ?_ (fun hHeld => ?_)
      · exact ⟨A0, A1, A2, A3, A4, A5, A6⟩
      clear hK K
      try simp only [Act.put, List.getElem_toArray, List.getElem_cons_succ, List.getElem_cons_zero, List.setIfInBounds_toArray, List.set_cons_zero, List.set_cons_succ]
      refine wpAnyH_ready (rs := [35]) (by kernel_rfl) (by simp) ?_
      refine AllReadyH.cons rfl (fun K hK => ?_) AllReadyH.nil
      go_simp
      refine (HEQ.out _ _ _ ?h1 ?h2 ?h3).mono ?_
      case h1 => exact hy10.1
      case h2 => exact (hV8.below hb9).below hb10
      case h3 => exact hV10
      rintro e w11' ⟨hb11, rfl⟩
      have hy11 := Bxs.below hy10 hb11
      obtain ⟨B0, B1, B2, -⟩ := three_cells (HBa.out.below hy11.1)
      obtain ⟨B3, B4, B5, B6, -⟩ := four_cells (HBq.out.below hy11.1)
      refine hK.out _ _ ?_ (fun hHeld => ?_)
      · exact ⟨B0, B1, B2, B3, B4, B5, B6⟩
      clear hK K
      try simp only [Act.put, List.getElem_toArray, List.getElem_cons_succ, List.getElem_cons_zero, List.setIfInBounds_toArray, List.set_cons_zero, List.set_cons_succ]
      refine wpAnyH_take (i := 36) (v := ?_) rfl (by kernel_rfl) (by kernel_rfl) (by kernel_rfl) (fun _ _ _ h => h) (Or.inl ⟨by rfl, ?_⟩) (by assumption) ?_
      rotate_left
      · (intro w hSw; (try dsimp only at hSw); go_simp; (try with_reducible rfl))
      try simp only [Act.put, List.getElem_toArray, List.getElem_cons_succ, List.getElem_cons_zero, List.setIfInBounds_toArray, List.set_cons_zero, List.set_cons_succ]
      refine wpAnyH_take (i := 37) (v := ?_) rfl (by kernel_rfl) (by kernel_rfl) (by kernel_rfl) (fun _ _ _ h => h) (Or.inl ⟨by rfl, ?_⟩) (by assumption) ?_
      rotate_left
      · (intro w hSw; (try dsimp only at hSw); go_simp; (try with_reducible rfl))
      try simp only [Act.put, List.getElem_toArray, List.getElem_cons_succ, List.getElem_cons_zero, List.setIfInBounds_toArray, List.set_cons_zero, List.set_cons_succ]
      refine wpAnyH_ready (rs := [38]) (by kernel_rfl) (by simp) ?_
      refine AllReadyH.cons rfl (fun K hK => ?_) AllReadyH.nil
      go_simp
      refine (awake_any _).mono ?_
      rintro e w12' ⟨hb12, rfl⟩
      have hy12 := Bxs.below hy11 hb12
      obtain ⟨C0, C1, C2, -⟩ := three_cells (HBa.out.below hy12.1)
      obtain ⟨C3, C4, C5, C6, -⟩ := four_cells (HBq.out.below hy12.1)
      refine hK.out _ _ ?_ (fun hHeld => ?_)
      · exact ⟨C0, C1, C2, C3, C4, C5, C6⟩
      clear hK K
      try simp only [Act.put, List.getElem_toArray, List.getElem_cons_succ, List.getElem_cons_zero, List.setIfInBounds_toArray, List.set_cons_zero, List.set_cons_succ]
      refine wpAnyH_take (i := 39) (v := ?_) rfl (by kernel_rfl) (by kernel_rfl) (by kernel_rfl) (fun _ _ _ h => h) (Or.inl ⟨by rfl, ?_⟩) (by assumption) ?_
      rotate_left
      · (intro w hSw; (try dsimp only at hSw); go_simp; (try with_reducible rfl))
      try simp only [Act.put, List.getElem_toArray, List.getElem_cons_succ, List.getElem_cons_zero, List.setIfInBounds_toArray, List.set_cons_zero, List.set_cons_succ]
      refine wpAnyH_take (i := 40) (v := ?_) rfl (by kernel_rfl) (by kernel_rfl) (by kernel_rfl) (fun _ _ _ h => h) (Or.inl ⟨by rfl, ?_⟩) (by assumption) ?_
      rotate_left
      · (intro w hSw; (try dsimp only at hSw); go_simp; (try with_reducible rfl))
      try simp only [Act.put, List.getElem_toArray, List.getElem_cons_succ, List.getElem_cons_zero, List.setIfInBounds_toArray, List.set_cons_zero, List.set_cons_succ]
      refine wpAnyH_done (by kernel_rfl) ?_ _
      have hfin : Below w.heap.size w w12' := HW.out.trans (hy12.1.mono HW.out.size)
      have HFIN := Kept.mk hfin
      go_wp2
      go_ret
      exact ⟨HFIN.out, rfl⟩
    · skip
      obtain ⟨e1, e2⟩ := decR_inj hlo'.1 hq0 (hpq'.symm.trans HPQ.out)
      subst e1 e2
      have := HSMR.out
      rw [hsm'] at this
      cases this
    · skip
      exact absurd HPQ.out (hno p q HLO.out)
  · skip
    have HNO := Kept.mk hno
    have hal1 : Below w1.heap.size w1 (w1.alloc (.cells #[.bool false, .slice none 0 0, .bool false, .slice none 0 0] 72)) := (Below.refl _ _).alloc (Nat.le_refl _) _
    replace HW := Kept.mk (HW.out.trans (hal1.mono HW.out.size))
    clear hal1 hno
    go_wp2_with fail
    refine (parseRat_any s _ (by omega)).mono ?_
    rintro e w2 ⟨hb2, hc2⟩
    replace HW := Kept.mk (HW.out.trans (hb2.mono HW.out.size))
    clear hb2
    rcases hc2 with ⟨p', q', v2, hpq', hlo', hsm', rfl, hR2⟩ | ⟨p', q', hpq', hlo', hsm', _⟩ | ⟨hno, rfl⟩
    · exact absurd hpq' (HNO.out p' q' hlo')
    · exact absurd hpq' (HNO.out p' q' hlo')
    · skip
      have hal2 : Below w2.heap.size w2 (w2.alloc (.cells #[.bool false, .slice none 0 0, .slice none 0 0] 76)) := (Below.refl _ _).alloc (Nat.le_refl _) _
      replace HW := Kept.mk (HW.out.trans (hal2.mono HW.out.size))
      have HBa : Kept (H3 (w2.alloc (.cells #[.bool false, .slice none 0 0, .slice none 0 0] 76)) w2.heap.size (.bool false) (.slice none 0 0) (.slice none 0 0)) := ⟨H3.new _ _ _ _ _ rfl⟩
      have HR0 : Kept (RatV 0 (w2.alloc (.cells #[.bool false, .slice none 0 0, .slice none 0 0] 76)) (.agg #[.bool false, .slice none 0 0, .slice none 0 0]) 0 1) := ⟨⟨_, _, _, rfl, rfl, Num.zero _ _, by rw [if_pos rfl]; exact Num.zero _ _⟩⟩
      clear hal2 hno
      unfold rat0
      obtain ⟨i0, i1, i2, -⟩ := three_cells HBa.out
      go_wp2_with fail
      refine (rstring_any HR0.out (by decide) (by decide)).mono ?_
      rintro e w3 ⟨hb3, he3⟩
      rw [show str (decR 0 1) = .string ⟨#[48]⟩ from rfl] at he3
      subst he3
      replace HW := Kept.mk (HW.out.trans (hb3.mono HW.out.size))
      clear hb3 i0 i1 i2
      go_wp2_with fail
      refine (awake_any _).mono ?_
      rintro e w4 ⟨hb4, rfl⟩
      replace HW := Kept.mk (HW.out.trans (hb4.mono HW.out.size))
      clear hb4
      go_wp2
      go_ret
      exact ⟨HW.out, rfl⟩
set_option maxRecDepth 20000 in
set_option maxHeartbeats 8000000 in
theorem fracs_gt (s : ByteArray) (w : World) (hs : s.size ≤ 140737488355328) (hl : ¬ (s.size : Int) ≤ 1000) :
    Calls Tryz.prog 11 #[.string s] w (RetV w (.bool true)) := by
  have HW : Kept (Below w.heap.size w w) := ⟨Below.refl _ _⟩
  have hnot : ∀ (x : Bool) (w : World), (Op.unary .not (.bool x)).run Tryz.prog w = .ok (.bool (!x)) w := fun _ _ => rfl
  have hd13 : decide ((1000 : Int) < s.size) = true := decide_eq_true (by omega)
  obtain ⟨t, ht⟩ : ∃ t, t = s.extract 0 1000 := ⟨_, rfl⟩
  have hts : t.size ≤ 1000 := by rw [ht]; simp [ByteArray.size_extract]; omega
  have HT := Kept.mk ht.symm
  have hs13 : (1000 : Int) ≤ s.size := by omega
  clear ht
  have HTL : Kept (t.data.toList.length ≤ 1000) := ⟨by have : t.data.toList.length = t.size := Array.length_toList; omega⟩
  go_enter Tryz.func11, Tryz.ntmps11
  go_wp2_with fail
  rw [HT.out]
  refine (rread_any t _ (by omega)).mono ?_
  rintro e w1 ⟨hb1, hc1⟩
  replace HW := Kept.mk (HW.out.trans (hb1.mono HW.out.size))
  clear hb1
  rcases hc1 with ⟨p, q, v1, hpq, hlo, rfl, hQ1⟩ | ⟨hno, rfl⟩
  · skip
    have HPQ := Kept.mk hpq
    have HLO := Kept.mk hlo
    have hq0 := hlo.1
    have hQm : QV 1064 w1 v1 p q := hQ1.mono (by have := HTL.out; omega)
    obtain ⟨s1, o1, k1, c1, s2, o2, k2, c2, rfl, hx1, hx2⟩ := hQm.form
    have hal1 : Below w1.heap.size w1 (w1.alloc (.cells #[.bool s1, .slice o1 k1 c1, .bool s2, .slice o2 k2 c2] 72)) := (Below.refl _ _).alloc (Nat.le_refl _) _
    replace HW := Kept.mk (HW.out.trans (hal1.mono HW.out.size))
    have HBq : Kept (H4 (w1.alloc (.cells #[.bool s1, .slice o1 k1 c1, .bool s2, .slice o2 k2 c2] 72)) w1.heap.size (.bool s1) (.slice o1 k1 c1) (.bool s2) (.slice o2 k2 c2)) := ⟨H4.new _ _ _ _ _ _ rfl⟩
    have HQ := Kept.mk (hQm.below hal1)
    have HX1 := Kept.mk (hx1.below hal1)
    have HX2 := Kept.mk (hx2.below hal1)
    have HSMR : Kept (smR p q = true) := ⟨small_frac hq0 (by rw [← hpq]; exact HTL.out)⟩
    clear hal1 hQ1 hQm hx1 hx2 hpq hlo
    go_wp2_with fail
    refine (parseRat_any t _ (by omega)).mono ?_
    rintro e w2 ⟨hb2, hc2⟩
    replace HW := Kept.mk (HW.out.trans (hb2.mono HW.out.size))
    replace HBq := Kept.mk (HBq.out.below hb2)
    replace HQ := Kept.mk (HQ.out.below hb2)
    replace HX1 := Kept.mk (HX1.out.below hb2)
    replace HX2 := Kept.mk (HX2.out.below hb2)
    clear hb2
    rcases hc2 with ⟨p', q', v2, hpq', hlo', hsm', rfl, hR2⟩ | ⟨p', q', hpq', hlo', hsm', _⟩ | ⟨hno, _⟩
    · skip
      obtain ⟨e1, e2⟩ := decR_inj hlo'.1 hq0 (hpq'.symm.trans HPQ.out)
      subst e1 e2
      have hRm : RatV 41000 w2 v2 p' q' := hR2.mono (by omega)
      obtain ⟨sa, ao, ka, ca, uo, ku, cu, rfl, ra1, ra2, ra3, ra4⟩ := hRm.form
      have hal2 : Below w2.heap.size w2 (w2.alloc (.cells #[.bool sa, .slice ao ka ca, .slice uo ku cu] 76)) := (Below.refl _ _).alloc (Nat.le_refl _) _
      replace HW := Kept.mk (HW.out.trans (hal2.mono HW.out.size))
      replace HBq := Kept.mk (HBq.out.below hal2)
      replace HQ := Kept.mk (HQ.out.below hal2)
      replace HX1 := Kept.mk (HX1.out.below hal2)
      replace HX2 := Kept.mk (HX2.out.below hal2)
      have HBa : Kept (H3 (w2.alloc (.cells #[.bool sa, .slice ao ka ca, .slice uo ku cu] 76)) w2.heap.size (.bool sa) (.slice ao ka ca) (.slice uo ku cu)) := ⟨H3.new _ _ _ _ _ rfl⟩
      have HR := Kept.mk (hRm.below hal2)
      clear hal2 hR2 hRm ra1 ra2 ra3 ra4 hpq' hlo' hsm'
      go_wp2_with fail
      generalize w2.alloc (.cells #[.bool sa, .slice ao ka ca, .slice uo ku cu] 76) = ws at *
      obtain ⟨σ, hσ⟩ : ∃ σ, Dg.sg p' 0 = σ := ⟨_, rfl⟩
      have hss : (σ == σ) = true := by simp
      have htt : (t.toList == t.toList) = true := by simp
      have HSG := Kept.mk hσ
      clear hσ
      have HST : Kept (∀ W, Below ws.heap.size ws W → Calls Tryz.prog 56 #[.agg #[.bool sa, .slice ao ka ca, .slice uo ku cu]] W (RetV W (.string t))) := ⟨fun W h => by have hc := rstring_any (HR.out.below h) hq0 (by decide); rw [← frac_back HPQ.out]; exact hc⟩
      have HNU : Kept (∀ W, Below ws.heap.size ws W → Calls Tryz.prog 57 #[.agg #[.bool sa, .slice ao ka ca, .slice uo ku cu]] W (RetInt 41000 W p')) := ⟨fun W h => num_any (HR.out.below h) (by decide)⟩
      have HDE : Kept (∀ W, Below ws.heap.size ws W → Calls Tryz.prog 58 #[.agg #[.bool sa, .slice ao ka ca, .slice uo ku cu]] W (RetInt 41000 W q')) := ⟨fun W h => den_any (HR.out.below h) hq0 (by decide)⟩
      have HSA : Kept (∀ W, Below ws.heap.size ws W → Calls Tryz.prog 59 #[.agg #[.bool sa, .slice ao ka ca, .slice uo ku cu]] W (RetV W (.int .i64 σ))) := ⟨fun W h => by have hc := rsign_any (HR.out.below h); rw [HSG.out] at hc; exact hc⟩
      have HSQ : Kept (∀ W, Below ws.heap.size ws W → Calls Tryz.prog 60 #[.agg #[.bool s1, .slice o1 k1 c1, .bool s2, .slice o2 k2 c2]] W (RetV W (.int .i64 σ))) := ⟨fun W h => by have hc := rsgn_any (HQ.out.below h); rw [HSG.out] at hc; exact hc⟩
      have HNE : Kept (∀ W, Below ws.heap.size ws W → Calls Tryz.prog 62 #[.agg #[.bool sa, .slice ao ka ca, .slice uo ku cu]] W (RetRat 41000 W (-p') q')) := ⟨fun W h => rneg_any (HR.out.below h) (by decide)⟩
      have HFR : Kept (∀ W, Below ws.heap.size ws W → Calls Tryz.prog 64 #[.int .i64 0, .int .i64 1] W (RetQ 64 W 0 1)) := ⟨fun W h => rfrac_any 0 1 W (by decide) (by decide) (by decide) (by decide) (by decide)⟩
      have HIS1 : Kept (∀ W v, Below ws.heap.size ws W → IntV 41000 W v p' → Calls Tryz.prog 27 #[v, .agg #[.bool s1, .slice o1 k1 c1]] W (RetV W (.bool true))) := ⟨fun W v h hv => is_any hv (HX1.out.below h) (by decide) (by decide)⟩
      have HIS2 : Kept (∀ W v, Below ws.heap.size ws W → IntV 41000 W v q' → Calls Tryz.prog 27 #[v, .agg #[.bool s2, .slice o2 k2 c2]] W (RetV W (.bool true))) := ⟨fun W v h hv => is_any hv (HX2.out.below h) (by decide) (by decide)⟩
      have HMI : Kept (∀ W u, Below ws.heap.size ws W → QV 64 W u 0 1 → Calls Tryz.prog 63 #[u, .agg #[.bool s1, .slice o1 k1 c1, .bool s2, .slice o2 k2 c2]] W (RetQ 2129 W (-p') q')) := ⟨fun W u h hu => by have hc := rminus_any (hu.mono (show 64 ≤ 1064 by decide)) (HQ.out.below h) (by omega) (by decide); have e := fr_low (low_neg HLO.out); rw [Int.zero_mul, Int.mul_one, Int.one_mul, Int.zero_sub, e.1, e.2] at hc; exact hc⟩
      have HEQ : Kept (∀ W v u, Below ws.heap.size ws W → RatV 41000 W v (-p') q' → QV 2129 W u (-p') q' → Calls Tryz.prog 61 #[v, u] W (RetV W (.bool true))) := ⟨fun W v u _ hv hu => requal_any hv hu hq0 (by decide) (by decide)⟩
      obtain ⟨i0, i1, i2, -⟩ := three_cells (HBa.out)
      obtain ⟨i3, i4, i5, i6, -⟩ := four_cells (HBq.out)
      refine wp_region_held_drew (S := fun w' => w'.cell? ⟨w2.heap.size, 0, none⟩ = some (.bool sa) ∧ w'.cell? ⟨w2.heap.size, 1, none⟩ = some (.slice ao ka ca) ∧ w'.cell? ⟨w2.heap.size, 2, none⟩ = some (.slice uo ku cu) ∧ w'.cell? ⟨w1.heap.size, 0, none⟩ = some (.bool s1) ∧ w'.cell? ⟨w1.heap.size, 1, none⟩ = some (.slice o1 k1 c1) ∧ w'.cell? ⟨w1.heap.size, 2, none⟩ = some (.bool s2) ∧ w'.cell? ⟨w1.heap.size, 3, none⟩ = some (.slice o2 k2 c2)) (by kernel_rfl) ?_ (fun hHeld => ?_)
      · exact ⟨i0, i1, i2, i3, i4, i5, i6⟩
      refine wpAnyH_take (i := 0) (v := ?_) rfl (by kernel_rfl) (by kernel_rfl) (by kernel_rfl) (fun _ _ _ h => h) (Or.inl ⟨by rfl, ?_⟩) (by assumption) ?_
      rotate_left
      · (intro w hSw; (try dsimp only at hSw); go_simp; (try with_reducible rfl))
      try simp only [Act.put, List.getElem_toArray, List.getElem_cons_succ, List.getElem_cons_zero, List.setIfInBounds_toArray, List.set_cons_zero, List.set_cons_succ]
      refine wpAnyH_take (i := 1) (v := ?_) rfl (by kernel_rfl) (by kernel_rfl) (by kernel_rfl) (fun _ _ _ h => h) (Or.inl ⟨by rfl, ?_⟩) (by assumption) ?_
      rotate_left
      · (intro w hSw; (try dsimp only at hSw); go_simp; (try with_reducible rfl))
      try simp only [Act.put, List.getElem_toArray, List.getElem_cons_succ, List.getElem_cons_zero, List.setIfInBounds_toArray, List.set_cons_zero, List.set_cons_succ]
      refine wpAnyH_take (i := 2) (v := ?_) rfl (by kernel_rfl) (by kernel_rfl) (by kernel_rfl) (fun _ _ _ h => h) (Or.inl ⟨by rfl, ?_⟩) (by assumption) ?_
      rotate_left
      · (intro w hSw; (try dsimp only at hSw); go_simp; (try with_reducible rfl))
      try simp only [Act.put, List.getElem_toArray, List.getElem_cons_succ, List.getElem_cons_zero, List.setIfInBounds_toArray, List.set_cons_zero, List.set_cons_succ]
      refine wpAnyH_take (i := 3) (v := ?_) rfl (by kernel_rfl) (by kernel_rfl) (by kernel_rfl) (fun _ _ _ h => h) (Or.inl ⟨by rfl, ?_⟩) (by assumption) ?_
      rotate_left
      · (intro w hSw; (try dsimp only at hSw); go_simp; (try with_reducible rfl))
      try simp only [Act.put, List.getElem_toArray, List.getElem_cons_succ, List.getElem_cons_zero, List.setIfInBounds_toArray, List.set_cons_zero, List.set_cons_succ]
      refine wpAnyH_take (i := 5) (v := ?_) rfl (by kernel_rfl) (by kernel_rfl) (by kernel_rfl) (fun _ _ _ h => h) (Or.inl ⟨by rfl, ?_⟩) (by assumption) ?_
      rotate_left
      · (intro w hSw; (try dsimp only at hSw); go_simp; (try with_reducible rfl))
      try simp only [Act.put, List.getElem_toArray, List.getElem_cons_succ, List.getElem_cons_zero, List.setIfInBounds_toArray, List.set_cons_zero, List.set_cons_succ]
      refine wpAnyH_ready (rs := [4]) (by kernel_rfl) (by simp) ?_
      refine AllReadyH.cons rfl (fun K hK => ?_) AllReadyH.nil
      go_simp
      refine (HST.out _ ?h1).mono ?_
      case h1 => exact ((Bxs.start ws).drew).1
      rintro e w1' ⟨hb1, rfl⟩
      have hy1 := Bxs.below ((Bxs.start ws).drew) hb1
      obtain ⟨j0, j1, j2, -⟩ := three_cells (HBa.out.below hy1.1)
      obtain ⟨j3, j4, j5, j6, -⟩ := four_cells (HBq.out.below hy1.1)
      refine hK.out _ _ ?_ (fun hHeld => ?_)
      · exact ⟨j0, j1, j2, j3, j4, j5, j6⟩
      clear hK K
      try simp only [Act.put, List.getElem_toArray, List.getElem_cons_succ, List.getElem_cons_zero, List.setIfInBounds_toArray, List.set_cons_zero, List.set_cons_succ]
      refine wpAnyH_take (i := 6) (v := ?_) rfl (by kernel_rfl) (by kernel_rfl) (by kernel_rfl) (fun _ _ _ h => h) (Or.inl ⟨by rfl, ?_⟩) (by assumption) ?_
      rotate_left
      · (intro w hSw; (try dsimp only at hSw); go_simp; (try with_reducible rfl))
      try simp only [Act.put, List.getElem_toArray, List.getElem_cons_succ, List.getElem_cons_zero, List.setIfInBounds_toArray, List.set_cons_zero, List.set_cons_succ]
      refine wpAnyH_take (i := 7) (v := ?_) rfl (by kernel_rfl) (by kernel_rfl) (by kernel_rfl) (fun _ _ _ h => h) (Or.inl ⟨by rfl, ?_⟩) (by assumption) ?_
      rotate_left
      · (intro w hSw; (try dsimp only at hSw); go_simp; (try with_reducible rfl))
      try simp only [Act.put, List.getElem_toArray, List.getElem_cons_succ, List.getElem_cons_zero, List.setIfInBounds_toArray, List.set_cons_zero, List.set_cons_succ]
      refine wpAnyH_take (i := 8) (v := ?_) rfl (by kernel_rfl) (by kernel_rfl) (by kernel_rfl) (fun _ _ _ h => h) (Or.inl ⟨by rfl, ?_⟩) (by assumption) ?_
      rotate_left
      · (intro w hSw; (try dsimp only at hSw); go_simp; (try with_reducible rfl))
      try simp only [Act.put, List.getElem_toArray, List.getElem_cons_succ, List.getElem_cons_zero, List.setIfInBounds_toArray, List.set_cons_zero, List.set_cons_succ]
      refine wpAnyH_take (i := 9) (v := ?_) rfl (by kernel_rfl) (by kernel_rfl) (by kernel_rfl) (fun _ _ _ h => h) (Or.inl ⟨by rfl, ?_⟩) (by assumption) ?_
      rotate_left
      · (intro w hSw; (try dsimp only at hSw); go_simp; (try with_reducible rfl))
      try simp only [Act.put, List.getElem_toArray, List.getElem_cons_succ, List.getElem_cons_zero, List.setIfInBounds_toArray, List.set_cons_zero, List.set_cons_succ]
      refine wpAnyH_take (i := 11) (v := ?_) rfl (by kernel_rfl) (by kernel_rfl) (by kernel_rfl) (fun _ _ _ h => h) (Or.inl ⟨by rfl, ?_⟩) (by assumption) ?_
      rotate_left
      · (intro w hSw; (try dsimp only at hSw); go_simp; (try with_reducible rfl))
      try simp only [Act.put, List.getElem_toArray, List.getElem_cons_succ, List.getElem_cons_zero, List.setIfInBounds_toArray, List.set_cons_zero, List.set_cons_succ]
      refine wpAnyH_take (i := 12) (v := ?_) rfl (by kernel_rfl) (by kernel_rfl) (by kernel_rfl) (fun _ _ _ h => h) (Or.inl ⟨by rfl, ?_⟩) (by assumption) ?_
      rotate_left
      · (intro w hSw; (try dsimp only at hSw); go_simp; (try with_reducible rfl))
      try simp only [Act.put, List.getElem_toArray, List.getElem_cons_succ, List.getElem_cons_zero, List.setIfInBounds_toArray, List.set_cons_zero, List.set_cons_succ]
      refine wpAnyH_ready (rs := [10]) (by kernel_rfl) (by simp) ?_
      refine AllReadyH.cons rfl (fun K hK => ?_) AllReadyH.nil
      go_simp
      refine (HNU.out _ ?h1).mono ?_
      case h1 => exact hy1.1
      rintro e w2' ⟨hb2, v2', rfl, hV2⟩
      have hy2 := Bxs.below hy1 hb2
      obtain ⟨k0, k1, k2, -⟩ := three_cells (HBa.out.below hy2.1)
      obtain ⟨k3, k4, k5, k6, -⟩ := four_cells (HBq.out.below hy2.1)
      refine hK.out _ _ ?_ (fun hHeld => ?_)
      · exact ⟨k0, k1, k2, k3, k4, k5, k6⟩
      clear hK K
      try simp only [Act.put, List.getElem_toArray, List.getElem_cons_succ, List.getElem_cons_zero, List.setIfInBounds_toArray, List.set_cons_zero, List.set_cons_succ]
      refine wpAnyH_ready (rs := [13]) (by kernel_rfl) (by simp) ?_
      refine AllReadyH.cons rfl (fun K hK => ?_) AllReadyH.nil
      go_simp
      refine (HIS1.out _ _ ?h1 ?h2).mono ?_
      case h1 => exact hy2.1
      case h2 => exact hV2
      rintro e w3' ⟨hb3, rfl⟩
      have hy3 := Bxs.below hy2 hb3
      obtain ⟨l0, l1, l2, -⟩ := three_cells (HBa.out.below hy3.1)
      obtain ⟨l3, l4, l5, l6, -⟩ := four_cells (HBq.out.below hy3.1)
      refine hK.out _ _ ?_ (fun hHeld => ?_)
      · exact ⟨l0, l1, l2, l3, l4, l5, l6⟩
      clear hK K
      try simp only [Act.put, List.getElem_toArray, List.getElem_cons_succ, List.getElem_cons_zero, List.setIfInBounds_toArray, List.set_cons_zero, List.set_cons_succ]
      refine wpAnyH_take (i := 14) (v := ?_) rfl (by kernel_rfl) (by kernel_rfl) (by kernel_rfl) (fun _ _ _ h => h) (Or.inl ⟨by rfl, ?_⟩) (by assumption) ?_
      rotate_left
      · (intro w hSw; (try dsimp only at hSw); go_simp; (try with_reducible rfl))
      try simp only [Act.put, List.getElem_toArray, List.getElem_cons_succ, List.getElem_cons_zero, List.setIfInBounds_toArray, List.set_cons_zero, List.set_cons_succ]
      refine wpAnyH_take (i := 15) (v := ?_) rfl (by kernel_rfl) (by kernel_rfl) (by kernel_rfl) (fun _ _ _ h => h) (Or.inl ⟨by rfl, ?_⟩) (by assumption) ?_
      rotate_left
      · (intro w hSw; (try dsimp only at hSw); go_simp; (try with_reducible rfl))
      try simp only [Act.put, List.getElem_toArray, List.getElem_cons_succ, List.getElem_cons_zero, List.setIfInBounds_toArray, List.set_cons_zero, List.set_cons_succ]
      refine wpAnyH_take (i := 16) (v := ?_) rfl (by kernel_rfl) (by kernel_rfl) (by kernel_rfl) (fun _ _ _ h => h) (Or.inl ⟨by rfl, ?_⟩) (by assumption) ?_
      rotate_left
      · (intro w hSw; (try dsimp only at hSw); go_simp; (try with_reducible rfl))
      try simp only [Act.put, List.getElem_toArray, List.getElem_cons_succ, List.getElem_cons_zero, List.setIfInBounds_toArray, List.set_cons_zero, List.set_cons_succ]
      refine wpAnyH_take (i := 18) (v := ?_) rfl (by kernel_rfl) (by kernel_rfl) (by kernel_rfl) (fun _ _ _ h => h) (Or.inl ⟨by rfl, ?_⟩) (by assumption) ?_
      rotate_left
      · (intro w hSw; (try dsimp only at hSw); go_simp; (try with_reducible rfl))
      try simp only [Act.put, List.getElem_toArray, List.getElem_cons_succ, List.getElem_cons_zero, List.setIfInBounds_toArray, List.set_cons_zero, List.set_cons_succ]
      refine wpAnyH_take (i := 19) (v := ?_) rfl (by kernel_rfl) (by kernel_rfl) (by kernel_rfl) (fun _ _ _ h => h) (Or.inl ⟨by rfl, ?_⟩) (by assumption) ?_
      rotate_left
      · (intro w hSw; (try dsimp only at hSw); go_simp; (try with_reducible rfl))
      try simp only [Act.put, List.getElem_toArray, List.getElem_cons_succ, List.getElem_cons_zero, List.setIfInBounds_toArray, List.set_cons_zero, List.set_cons_succ]
      refine wpAnyH_ready (rs := [17]) (by kernel_rfl) (by simp) ?_
      refine AllReadyH.cons rfl (fun K hK => ?_) AllReadyH.nil
      go_simp
      refine (HDE.out _ ?h1).mono ?_
      case h1 => exact hy3.1
      rintro e w4' ⟨hb4, v4', rfl, hV4⟩
      have hy4 := Bxs.below hy3 hb4
      obtain ⟨m0, m1, m2, -⟩ := three_cells (HBa.out.below hy4.1)
      obtain ⟨m3, m4, m5, m6, -⟩ := four_cells (HBq.out.below hy4.1)
      refine hK.out _ _ ?_ (fun hHeld => ?_)
      · exact ⟨m0, m1, m2, m3, m4, m5, m6⟩
      clear hK K
      try simp only [Act.put, List.getElem_toArray, List.getElem_cons_succ, List.getElem_cons_zero, List.setIfInBounds_toArray, List.set_cons_zero, List.set_cons_succ]
      refine wpAnyH_ready (rs := [20]) (by kernel_rfl) (by simp) ?_
      refine AllReadyH.cons rfl (fun K hK => ?_) AllReadyH.nil
      go_simp
      refine (HIS2.out _ _ ?h1 ?h2).mono ?_
      case h1 => exact hy4.1
      case h2 => exact hV4
      rintro e w5' ⟨hb5, rfl⟩
      have hy5 := Bxs.below hy4 hb5
      obtain ⟨n0, n1, n2, -⟩ := three_cells (HBa.out.below hy5.1)
      obtain ⟨n3, n4, n5, n6, -⟩ := four_cells (HBq.out.below hy5.1)
      refine hK.out _ _ ?_ (fun hHeld => ?_)
      · exact ⟨n0, n1, n2, n3, n4, n5, n6⟩
      clear hK K
      try simp only [Act.put, List.getElem_toArray, List.getElem_cons_succ, List.getElem_cons_zero, List.setIfInBounds_toArray, List.set_cons_zero, List.set_cons_succ]
      refine wpAnyH_take (i := 21) (v := ?_) rfl (by kernel_rfl) (by kernel_rfl) (by kernel_rfl) (fun _ _ _ h => h) (Or.inl ⟨by rfl, ?_⟩) (by assumption) ?_
      rotate_left
      · (intro w hSw; (try dsimp only at hSw); go_simp; (try with_reducible rfl))
      try simp only [Act.put, List.getElem_toArray, List.getElem_cons_succ, List.getElem_cons_zero, List.setIfInBounds_toArray, List.set_cons_zero, List.set_cons_succ]
      refine wpAnyH_take (i := 22) (v := ?_) rfl (by kernel_rfl) (by kernel_rfl) (by kernel_rfl) (fun _ _ _ h => h) (Or.inl ⟨by rfl, ?_⟩) (by assumption) ?_
      rotate_left
      · (intro w hSw; (try dsimp only at hSw); go_simp; (try with_reducible rfl))
      try simp only [Act.put, List.getElem_toArray, List.getElem_cons_succ, List.getElem_cons_zero, List.setIfInBounds_toArray, List.set_cons_zero, List.set_cons_succ]
      refine wpAnyH_take (i := 23) (v := ?_) rfl (by kernel_rfl) (by kernel_rfl) (by kernel_rfl) (fun _ _ _ h => h) (Or.inl ⟨by rfl, ?_⟩) (by assumption) ?_
      rotate_left
      · (intro w hSw; (try dsimp only at hSw); go_simp; (try with_reducible rfl))
      try simp only [Act.put, List.getElem_toArray, List.getElem_cons_succ, List.getElem_cons_zero, List.setIfInBounds_toArray, List.set_cons_zero, List.set_cons_succ]
      refine wpAnyH_take (i := 25) (v := ?_) rfl (by kernel_rfl) (by kernel_rfl) (by kernel_rfl) (fun _ _ _ h => h) (Or.inl ⟨by rfl, ?_⟩) (by assumption) ?_
      rotate_left
      · (intro w hSw; (try dsimp only at hSw); go_simp; (try with_reducible rfl))
      try simp only [Act.put, List.getElem_toArray, List.getElem_cons_succ, List.getElem_cons_zero, List.setIfInBounds_toArray, List.set_cons_zero, List.set_cons_succ]
      refine wpAnyH_ready (rs := [24]) (by kernel_rfl) (by simp) ?_
      refine AllReadyH.cons rfl (fun K hK => ?_) AllReadyH.nil
      go_simp
      refine (HSA.out _ ?h1).mono ?_
      case h1 => exact hy5.1
      rintro e w6' ⟨hb6, rfl⟩
      have hy6 := Bxs.below hy5 hb6
      obtain ⟨o0, o1, o2, -⟩ := three_cells (HBa.out.below hy6.1)
      obtain ⟨o3, o4, o5, o6, -⟩ := four_cells (HBq.out.below hy6.1)
      refine hK.out _ _ ?_ (fun hHeld => ?_)
      · exact ⟨o0, o1, o2, o3, o4, o5, o6⟩
      clear hK K
      try simp only [Act.put, List.getElem_toArray, List.getElem_cons_succ, List.getElem_cons_zero, List.setIfInBounds_toArray, List.set_cons_zero, List.set_cons_succ]
      refine wpAnyH_ready (rs := [26]) (by kernel_rfl) (by simp) ?_
      refine AllReadyH.cons rfl (fun K hK => ?_) AllReadyH.nil
      go_simp
      refine (HSQ.out _ ?h1).mono ?_
      case h1 => exact hy6.1
      rintro e w7' ⟨hb7, rfl⟩
      have hy7 := Bxs.below hy6 hb7
      obtain ⟨p0, p1, p2, -⟩ := three_cells (HBa.out.below hy7.1)
      obtain ⟨p3, p4, p5, p6, -⟩ := four_cells (HBq.out.below hy7.1)
      refine hK.out _ _ ?_ (fun hHeld => ?_)
      · exact ⟨p0, p1, p2, p3, p4, p5, p6⟩
      clear hK K
      try simp only [Act.put, List.getElem_toArray, List.getElem_cons_succ, List.getElem_cons_zero, List.setIfInBounds_toArray, List.set_cons_zero, List.set_cons_succ]
      refine wpAnyH_take (i := 27) (v := ?_) rfl (by kernel_rfl) (by kernel_rfl) (by kernel_rfl) (fun _ _ _ h => h) (Or.inl ⟨by rfl, ?_⟩) (by assumption) ?_
      rotate_left
      · (intro w hSw; (try dsimp only at hSw); go_simp; (try with_reducible rfl))
      try simp only [Act.put, List.getElem_toArray, List.getElem_cons_succ, List.getElem_cons_zero, List.setIfInBounds_toArray, List.set_cons_zero, List.set_cons_succ]
      refine wpAnyH_take (i := 28) (v := ?_) rfl (by kernel_rfl) (by kernel_rfl) (by kernel_rfl) (fun _ _ _ h => h) (Or.inl ⟨by rfl, ?_⟩) (by assumption) ?_
      rotate_left
      · (intro w hSw; (try dsimp only at hSw); go_simp; (try with_reducible rfl))
      try simp only [Act.put, List.getElem_toArray, List.getElem_cons_succ, List.getElem_cons_zero, List.setIfInBounds_toArray, List.set_cons_zero, List.set_cons_succ]
      refine wpAnyH_take (i := 29) (v := ?_) rfl (by kernel_rfl) (by kernel_rfl) (by kernel_rfl) (fun _ _ _ h => h) (Or.inl ⟨by rfl, ?_⟩) (by assumption) ?_
      rotate_left
      · (intro w hSw; (try dsimp only at hSw); go_simp; (try with_reducible rfl))
      try simp only [Act.put, List.getElem_toArray, List.getElem_cons_succ, List.getElem_cons_zero, List.setIfInBounds_toArray, List.set_cons_zero, List.set_cons_succ]
      refine wpAnyH_take (i := 30) (v := ?_) rfl (by kernel_rfl) (by kernel_rfl) (by kernel_rfl) (fun _ _ _ h => h) (Or.inl ⟨by rfl, ?_⟩) (by assumption) ?_
      rotate_left
      · (intro w hSw; (try dsimp only at hSw); go_simp; (try with_reducible rfl))
      try simp only [Act.put, List.getElem_toArray, List.getElem_cons_succ, List.getElem_cons_zero, List.setIfInBounds_toArray, List.set_cons_zero, List.set_cons_succ]
      refine wpAnyH_take (i := 33) (v := ?_) rfl (by kernel_rfl) (by kernel_rfl) (by kernel_rfl) (fun _ _ _ h => h) (Or.inl ⟨by rfl, ?_⟩) (by assumption) ?_
      rotate_left
      · (intro w hSw; (try dsimp only at hSw); go_simp; (try with_reducible rfl))
      try simp only [Act.put, List.getElem_toArray, List.getElem_cons_succ, List.getElem_cons_zero, List.setIfInBounds_toArray, List.set_cons_zero, List.set_cons_succ]
      refine wpAnyH_ready (rs := [31]) (by kernel_rfl) (by simp) ?_
      refine AllReadyH.cons rfl (fun K hK => ?_) AllReadyH.nil
      go_simp
      refine (HNE.out _ ?h1).mono ?_
      case h1 => exact hy7.1
      rintro e w8' ⟨hb8, v8', rfl, hV8⟩
      have hy8 := Bxs.below hy7 hb8
      obtain ⟨r0, r1, r2, -⟩ := three_cells (HBa.out.below hy8.1)
      obtain ⟨r3, r4, r5, r6, -⟩ := four_cells (HBq.out.below hy8.1)
      refine hK.out _ _ ?_ (fun hHeld => ?_)
      · exact ⟨r0, r1, r2, r3, r4, r5, r6⟩
      clear hK K
      try simp only [Act.put, List.getElem_toArray, List.getElem_cons_succ, List.getElem_cons_zero, List.setIfInBounds_toArray, List.set_cons_zero, List.set_cons_succ]
      refine wpAnyH_ready (rs := [32]) (by kernel_rfl) (by simp) ?_
      refine AllReadyH.cons rfl (fun K hK => ?_) AllReadyH.nil
      go_simp
      refine (HFR.out _ ?h1).mono ?_
      case h1 => exact hy8.1
      rintro e w9' ⟨hb9, v9', rfl, hV9⟩
      have hy9 := Bxs.below hy8 hb9
      obtain ⟨t0, t1, t2, -⟩ := three_cells (HBa.out.below hy9.1)
      obtain ⟨t3, t4, t5, t6, -⟩ := four_cells (HBq.out.below hy9.1)
      refine hK.out _ _ ?_ (fun hHeld => ?_)
      · exact ⟨t0, t1, t2, t3, t4, t5, t6⟩
      clear hK K
      try simp only [Act.put, List.getElem_toArray, List.getElem_cons_succ, List.getElem_cons_zero, List.setIfInBounds_toArray, List.set_cons_zero, List.set_cons_succ]
      refine wpAnyH_ready (rs := [34]) (by kernel_rfl) (by simp) ?_
      refine AllReadyH.cons rfl (fun K hK => ?_) AllReadyH.nil
      go_simp
      refine (HMI.out _ _ ?h1 ?h2).mono ?_
      case h1 => exact hy9.1
      case h2 => exact hV9
      rintro e w10' ⟨hb10, v10', rfl, hV10⟩
      have hy10 := Bxs.below hy9 hb10
      obtain ⟨A0, A1, A2, -⟩ := three_cells (HBa.out.below hy10.1)
      obtain ⟨A3, A4, A5, A6, -⟩ := four_cells (HBq.out.below hy10.1)
      refine hK.out _ _ ?_ (fun hHeld => ?_)
      · exact ⟨A0, A1, A2, A3, A4, A5, A6⟩
      clear hK K
      try simp only [Act.put, List.getElem_toArray, List.getElem_cons_succ, List.getElem_cons_zero, List.setIfInBounds_toArray, List.set_cons_zero, List.set_cons_succ]
      refine wpAnyH_ready (rs := [35]) (by kernel_rfl) (by simp) ?_
      refine AllReadyH.cons rfl (fun K hK => ?_) AllReadyH.nil
      go_simp
      refine (HEQ.out _ _ _ ?h1 ?h2 ?h3).mono ?_
      case h1 => exact hy10.1
      case h2 => exact (hV8.below hb9).below hb10
      case h3 => exact hV10
      rintro e w11' ⟨hb11, rfl⟩
      have hy11 := Bxs.below hy10 hb11
      obtain ⟨B0, B1, B2, -⟩ := three_cells (HBa.out.below hy11.1)
      obtain ⟨B3, B4, B5, B6, -⟩ := four_cells (HBq.out.below hy11.1)
      refine hK.out _ _ ?_ (fun hHeld => ?_)
      · exact ⟨B0, B1, B2, B3, B4, B5, B6⟩
      clear hK K
      try simp only [Act.put, List.getElem_toArray, List.getElem_cons_succ, List.getElem_cons_zero, List.setIfInBounds_toArray, List.set_cons_zero, List.set_cons_succ]
      refine wpAnyH_take (i := 36) (v := ?_) rfl (by kernel_rfl) (by kernel_rfl) (by kernel_rfl) (fun _ _ _ h => h) (Or.inl ⟨by rfl, ?_⟩) (by assumption) ?_
      rotate_left
      · (intro w hSw; (try dsimp only at hSw); go_simp; (try with_reducible rfl))
      try simp only [Act.put, List.getElem_toArray, List.getElem_cons_succ, List.getElem_cons_zero, List.setIfInBounds_toArray, List.set_cons_zero, List.set_cons_succ]
      refine wpAnyH_take (i := 37) (v := ?_) rfl (by kernel_rfl) (by kernel_rfl) (by kernel_rfl) (fun _ _ _ h => h) (Or.inl ⟨by rfl, ?_⟩) (by assumption) ?_
      rotate_left
      · (intro w hSw; (try dsimp only at hSw); go_simp; (try with_reducible rfl))
      try simp only [Act.put, List.getElem_toArray, List.getElem_cons_succ, List.getElem_cons_zero, List.setIfInBounds_toArray, List.set_cons_zero, List.set_cons_succ]
      refine wpAnyH_ready (rs := [38]) (by kernel_rfl) (by simp) ?_
      refine AllReadyH.cons rfl (fun K hK => ?_) AllReadyH.nil
      go_simp
      refine (awake_any _).mono ?_
      rintro e w12' ⟨hb12, rfl⟩
      have hy12 := Bxs.below hy11 hb12
      obtain ⟨C0, C1, C2, -⟩ := three_cells (HBa.out.below hy12.1)
      obtain ⟨C3, C4, C5, C6, -⟩ := four_cells (HBq.out.below hy12.1)
      refine hK.out _ _ ?_ (fun hHeld => ?_)
      · exact ⟨C0, C1, C2, C3, C4, C5, C6⟩
      clear hK K
      try simp only [Act.put, List.getElem_toArray, List.getElem_cons_succ, List.getElem_cons_zero, List.setIfInBounds_toArray, List.set_cons_zero, List.set_cons_succ]
      refine wpAnyH_take (i := 39) (v := ?_) rfl (by kernel_rfl) (by kernel_rfl) (by kernel_rfl) (fun _ _ _ h => h) (Or.inl ⟨by rfl, ?_⟩) (by assumption) ?_
      rotate_left
      · (intro w hSw; (try dsimp only at hSw); go_simp; (try with_reducible rfl))
      try simp only [Act.put, List.getElem_toArray, List.getElem_cons_succ, List.getElem_cons_zero, List.setIfInBounds_toArray, List.set_cons_zero, List.set_cons_succ]
      refine wpAnyH_take (i := 40) (v := ?_) rfl (by kernel_rfl) (by kernel_rfl) (by kernel_rfl) (fun _ _ _ h => h) (Or.inl ⟨by rfl, ?_⟩) (by assumption) ?_
      rotate_left
      · (intro w hSw; (try dsimp only at hSw); go_simp; (try with_reducible rfl))
      try simp only [Act.put, List.getElem_toArray, List.getElem_cons_succ, List.getElem_cons_zero, List.setIfInBounds_toArray, List.set_cons_zero, List.set_cons_succ]
      refine wpAnyH_done (by kernel_rfl) ?_ _
      have hfin : Below w.heap.size w w12' := HW.out.trans (hy12.1.mono HW.out.size)
      have HFIN := Kept.mk hfin
      go_wp2
      go_ret
      exact ⟨HFIN.out, rfl⟩
    · skip
      obtain ⟨e1, e2⟩ := decR_inj hlo'.1 hq0 (hpq'.symm.trans HPQ.out)
      subst e1 e2
      have := HSMR.out
      rw [hsm'] at this
      cases this
    · skip
      exact absurd HPQ.out (hno p q HLO.out)
  · skip
    have HNO := Kept.mk hno
    have hal1 : Below w1.heap.size w1 (w1.alloc (.cells #[.bool false, .slice none 0 0, .bool false, .slice none 0 0] 72)) := (Below.refl _ _).alloc (Nat.le_refl _) _
    replace HW := Kept.mk (HW.out.trans (hal1.mono HW.out.size))
    clear hal1 hno
    go_wp2_with fail
    refine (parseRat_any t _ (by omega)).mono ?_
    rintro e w2 ⟨hb2, hc2⟩
    replace HW := Kept.mk (HW.out.trans (hb2.mono HW.out.size))
    clear hb2
    rcases hc2 with ⟨p', q', v2, hpq', hlo', hsm', rfl, hR2⟩ | ⟨p', q', hpq', hlo', hsm', _⟩ | ⟨hno, rfl⟩
    · exact absurd hpq' (HNO.out p' q' hlo')
    · exact absurd hpq' (HNO.out p' q' hlo')
    · skip
      have hal2 : Below w2.heap.size w2 (w2.alloc (.cells #[.bool false, .slice none 0 0, .slice none 0 0] 76)) := (Below.refl _ _).alloc (Nat.le_refl _) _
      replace HW := Kept.mk (HW.out.trans (hal2.mono HW.out.size))
      have HBa : Kept (H3 (w2.alloc (.cells #[.bool false, .slice none 0 0, .slice none 0 0] 76)) w2.heap.size (.bool false) (.slice none 0 0) (.slice none 0 0)) := ⟨H3.new _ _ _ _ _ rfl⟩
      have HR0 : Kept (RatV 0 (w2.alloc (.cells #[.bool false, .slice none 0 0, .slice none 0 0] 76)) (.agg #[.bool false, .slice none 0 0, .slice none 0 0]) 0 1) := ⟨⟨_, _, _, rfl, rfl, Num.zero _ _, by rw [if_pos rfl]; exact Num.zero _ _⟩⟩
      clear hal2 hno
      unfold rat0
      obtain ⟨i0, i1, i2, -⟩ := three_cells HBa.out
      go_wp2_with fail
      refine (rstring_any HR0.out (by decide) (by decide)).mono ?_
      rintro e w3 ⟨hb3, he3⟩
      rw [show str (decR 0 1) = .string ⟨#[48]⟩ from rfl] at he3
      subst he3
      replace HW := Kept.mk (HW.out.trans (hb3.mono HW.out.size))
      clear hb3 i0 i1 i2
      go_wp2_with fail
      refine (awake_any _).mono ?_
      rintro e w4 ⟨hb4, rfl⟩
      replace HW := Kept.mk (HW.out.trans (hb4.mono HW.out.size))
      clear hb4
      go_wp2
      go_ret
      exact ⟨HW.out, rfl⟩
theorem tallyFracs_any (s : ByteArray) (w : World) (hs : s.size ≤ 140737488355328) :
    Calls Tryz.prog 11 #[.string s] w (RetV w (.bool true)) := by
  by_cases hl : (s.size : Int) ≤ 1000
  · exact fracs_le s w hs hl
  · exact fracs_gt s w hs hl
end Go.Proofs.YtblbheilddafbaaGreatDoor

set_option linter.unusedVariables false
namespace Go.Proofs.YtblbheilddafbaaGreatDoor.tallyFracs
open Go Go.ChangeShapes Go.WideShapes Go.ChangeAt Go.RowKit Go.Proofs.YtblbheilddafbaaGreatDoor
open Go.ChangeMaps (open_string shut_string)
set_option maxRecDepth 100000 in
theorem contract (H : Type) (enc : TypeId × Value → H) (W : World) (base : Nat) (args : Array Value) (ds gs : List (DataW H)) (before : List MemPlace)
    (hval : ∀ (j : Nat) t v, Tryz.f11.params[j]? = some t → args[j]? = some v → Value.okWide Tryz.prog W .any base t v)
    (hW : DataW.Whole enc Tryz.prog Tryz.f11.params.toList Rows.tallyFracsSpec.vars false W args.toList ds gs before) (ts : List TypeId) (hsz : (DataW.weightsEach Tryz.prog (Tryz.f11.params.toList ++ ts) (ds ++ gs)).all (· ≤ reachBytes) = true) :
    Calls Tryz.prog 11 args W fun e W' => ∃ v, e = .returned v ∧ Rows.tallyFracsSpec.post enc Tryz.prog Tryz.f11 false true false false W args v W' := by
  have hW' := hW
  obtain ⟨p, q, hA0, hV, rfl, hfz, hnd⟩ := hW
  have hA : DataW.TrodAll enc Tryz.prog W 0 (fun _ => true) true Tryz.f11.params.toList args.toList ds p := hA0
  rw [Tryz.params11] at hA hval hsz
  obtain ⟨v0, vs0, d0, ds0, p0, q0, hargs, rfl, rfl, h0, r0⟩ := trodAll_cons hA
  obtain ⟨rfl, rfl, rfl⟩ := trodAll_nil r0
  obtain rfl : args = #[v0] := Array.toList_inj.1 hargs
  obtain ⟨rfl, rfl⟩ := trodVars_none hV
  obtain ⟨a0, rfl, rfl, rfl, w0⟩ := open_string Tryz.underlying9 (hval 0 9 v0 rfl rfl) h0
  clear hA0
  simp only [List.append_nil] at hW'
  have hr0 : a0.size ≤ 140737488355328 := by
    have h := sized_string hsz (j := 0) (t := 9) (bytes := a0.data.toList) rfl rfl
    have hl : a0.data.toList.length = a0.size := Array.length_toList
    have hq := reachBytes_lt
    omega
  refine (tallyFracs_any a0 W hr0).mono fun e W' ⟨hb, he⟩ => ?_
  subst he
  exact ⟨_, rfl, post_of_below (pa := []) (pv := []) hW' (fun _ _ _ => trodAll_cons_mk (shut_bool Tryz.underlying4 _) trodAll_mk0) (fun _ _ => trodAll_cons_mk (shut_string Tryz.underlying9 w0) trodAll_mk0) (fun _ _ => rfl) rfl
    hb (ok_one (by kernel_rfl) rfl (okWide_bool_mk Tryz.underlying4 _))⟩
end Go.Proofs.YtblbheilddafbaaGreatDoor.tallyFracs
