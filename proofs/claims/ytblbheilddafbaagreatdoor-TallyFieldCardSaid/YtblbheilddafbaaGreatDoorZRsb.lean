/-
  Texts of the proof, merged by program: Rsb.
-/
import Derived.Test.YtblbheilddafbaaGreatDoorZ18
import Derived.Test.YtblbheilddafbaaGreatDoorZ19
set_option linter.unusedVariables false
set_option linter.unusedSimpArgs false
namespace Go.Proofs.YtblbheilddafbaaGreatDoor
open Go Go.RowKit
theorem cell3 {W : World} {g b o : Nat} {u1 u2 u3 : Value} (h : ¬ b = g) : (((W.setCell ⟨g, 0, none⟩ u1).setCell ⟨g, 1, none⟩ u2).setCell ⟨g, 2, none⟩ u3).cell? ⟨b, o, none⟩ = W.cell? ⟨b, o, none⟩ :=
  (World.cell?_setCell_far _ ⟨g, 2, none⟩ ⟨b, o, none⟩ u3 (fun e => h e.symm)).trans ((World.cell?_setCell_far _ ⟨g, 1, none⟩ ⟨b, o, none⟩ u2 (fun e => h e.symm)).trans (World.cell?_setCell_far _ ⟨g, 0, none⟩ ⟨b, o, none⟩ u1 (fun e => h e.symm)))
theorem fr_neg {a b : Int} (hb : b ≠ 0) : frN (-a) (-b) = frN a b ∧ frD (-a) (-b) = frD a b := by
  unfold frN frD
  have hg : Int.gcd (-a) (-b) = Int.gcd a b := by simp [Int.gcd]
  rw [hg, Int.natAbs_neg]
  refine ⟨?_, rfl⟩
  congr 1
  split <;> split <;> omega
/-- The sign of r goes over to t. -/
theorem fr_inv {p q r t : Int} (hr : r ≠ 0) (hq : q ≠ 0) : frN (p * sgn (decide (r < 0)) t) (q * (r.natAbs : Int)) = frN (p * t) (q * r) ∧ frD (p * sgn (decide (r < 0)) t) (q * (r.natAbs : Int)) = frD (p * t) (q * r) := by
  by_cases h : r < 0
  · have e1 : sgn (decide (r < 0)) t = -t := by simp [sgn, h]
    have e2 : (r.natAbs : Int) = -r := by omega
    rw [e1, e2, Int.mul_neg, Int.mul_neg]
    exact fr_neg (Int.mul_ne_zero hq hr)
  · have e1 : sgn (decide (r < 0)) t = t := by simp [sgn, h]
    have e2 : (r.natAbs : Int) = r := by omega
    rw [e1, e2]
    exact ⟨rfl, rfl⟩
theorem IntV.parts2 {L : Nat} {w : World} {s : Bool} {u : Value} {z : Int} (h : IntV L w (.agg #[.bool s, u]) z) : Num L w u z.natAbs := by
  obtain ⟨sb, sv, e, h1, hn⟩ := h
  simp only [Value.agg.injEq, Array.mk.injEq, List.cons.injEq, Value.bool.injEq, and_true] at e
  obtain ⟨rfl, rfl⟩ := e
  exact hn
set_option maxRecDepth 20000 in
set_option maxHeartbeats 4000000 in
theorem rsubq_any {La Lb : Nat} {va vb : Value} {p q r t : Int} {w : World} (ha : RatV La w va p q) (hb : RatV Lb w vb r t) (hq : 0 < q) (ht : 0 < t) (h1 : La ≤ 67108864) (h2 : Lb ≤ 67108863) (hsm : smR (frN (p * t - r * q) (q * t)) (frD (p * t - r * q) (q * t)) = true) :
    Calls Tryz.prog 70 #[va, vb] w (MkRet (La + Lb + 2) w (frN (p * t - r * q) (q * t)) (frD (p * t - r * q) (q * t))) := by
  obtain ⟨FN, hFN⟩ : ∃ x, frN (p * t - r * q) (q * t) = x := ⟨_, rfl⟩
  obtain ⟨FD, hFD⟩ : ∃ x, frD (p * t - r * q) (q * t) = x := ⟨_, rfl⟩
  obtain ⟨LL, hLL⟩ : ∃ LL, La + Lb + 2 = LL := ⟨_, rfl⟩
  have h2 : Lb ≤ 67108864 := by omega
  obtain ⟨sa, ao, ka, ca, uo, ku, cu, rfl, ra1, ra2, ra3, ra4⟩ := ha.form
  obtain ⟨sb, bo, kb, cb, yo, ky, cy, rfl, rb1, rb2, rb3, rb4⟩ := hb.form
  have HX0 : Kept (Bxs w [.cells #[.bool sa, .slice ao ka ca, .slice uo ku cu] 76, .cells #[.bool sb, .slice bo kb cb, .slice yo ky cy] 76, .cells #[.bool false, .slice none 0 0, .slice none 0 0] 76] (((w.alloc (.cells #[.bool sa, .slice ao ka ca, .slice uo ku cu] 76)).alloc (.cells #[.bool sb, .slice bo kb cb, .slice yo ky cy] 76)).alloc (.cells #[.bool false, .slice none 0 0, .slice none 0 0] 76))) := ⟨(((Bxs.start w).alloc (by simp) _).alloc (by simp) _).alloc (by simp) _⟩
  have HA := Kept.mk (ha.below HX0.out.1)
  have HB := Kept.mk (hb.below HX0.out.1)
  have HIN : Kept (∀ W, Below (((w.alloc (.cells #[.bool sa, .slice ao ka ca, .slice uo ku cu] 76)).alloc (.cells #[.bool sb, .slice bo kb cb, .slice yo ky cy] 76)).alloc (.cells #[.bool false, .slice none 0 0, .slice none 0 0] 76)).heap.size (((w.alloc (.cells #[.bool sa, .slice ao ka ca, .slice uo ku cu] 76)).alloc (.cells #[.bool sb, .slice bo kb cb, .slice yo ky cy] 76)).alloc (.cells #[.bool false, .slice none 0 0, .slice none 0 0] 76)) W → Calls Tryz.prog 62 #[.agg #[.bool sb, .slice bo kb cb, .slice yo ky cy]] W (RetRat Lb W (-r) t)) := ⟨fun W h => rneg_any (HB.out.below h) h2⟩
  have HOU : Kept (∀ W v, Below (((w.alloc (.cells #[.bool sa, .slice ao ka ca, .slice uo ku cu] 76)).alloc (.cells #[.bool sb, .slice bo kb cb, .slice yo ky cy] 76)).alloc (.cells #[.bool false, .slice none 0 0, .slice none 0 0] 76)).heap.size (((w.alloc (.cells #[.bool sa, .slice ao ka ca, .slice uo ku cu] 76)).alloc (.cells #[.bool sb, .slice bo kb cb, .slice yo ky cy] 76)).alloc (.cells #[.bool false, .slice none 0 0, .slice none 0 0] 76)) W → RatV Lb W v (-r) t → Calls Tryz.prog 69 #[.agg #[.bool sa, .slice ao ka ca, .slice uo ku cu], v] W (MkRet LL W FN FD)) := ⟨fun W v h hv => by rw [← hFN, ← hFD, ← hLL]; exact (by have hc := radd_any (HA.out.below h) hv hq ht h1 h2 (by rw [Int.neg_mul, ← Int.sub_eq_add_neg]; exact hsm); rw [Int.neg_mul, ← Int.sub_eq_add_neg] at hc; exact hc)⟩
  rw [hFN, hFD, hLL]
  clear ha hb ra1 ra2 ra3 ra4 rb1 rb2 rb3 rb4 hFN hFD hLL hsm
  obtain ⟨i0, i1, i2, -⟩ := three_cells (HX0.out).b0; obtain ⟨i3, i4, i5, -⟩ := three_cells (HX0.out).b1
  have hA0 : ¬ w.heap.size = w.heap.size + 1 + 1 := by omega
  have hA1 : ¬ w.heap.size + 1 = w.heap.size + 1 + 1 := by omega
  go_enter Tryz.func70, Tryz.ntmps70
  go_wp2_with fail
  go_region_held3 (fun w' => w'.cell? ⟨w.heap.size, 0, none⟩ = some (.bool sa) ∧ w'.cell? ⟨w.heap.size, 1, none⟩ = some (.slice ao ka ca) ∧ w'.cell? ⟨w.heap.size, 2, none⟩ = some (.slice uo ku cu) ∧ w'.cell? ⟨w.heap.size + 1, 0, none⟩ = some (.bool sb) ∧ w'.cell? ⟨w.heap.size + 1, 1, none⟩ = some (.slice bo kb cb) ∧ w'.cell? ⟨w.heap.size + 1, 2, none⟩ = some (.slice yo ky cy))
    (first | (with_reducible exact ⟨b_0, b_1, b_2, b_3, b_4, b_5⟩) | (with_reducible exact ⟨a_0, a_1, a_2, a_3, a_4, a_5⟩) | (with_reducible exact ⟨i0, i1, i2, i3, i4, i5⟩) | (with_reducible exact ⟨(cell3 hA0).trans b_0, (cell3 hA0).trans b_1, (cell3 hA0).trans b_2, (cell3 hA1).trans b_3, (cell3 hA1).trans b_4, (cell3 hA1).trans b_5⟩) | go_keep)
    ((first
      | (go_at_call 62; (with_reducible refine (HIN.out _ ?h1).mono ?_); (case h1 => exact (Below.refl (((w.alloc (.cells #[.bool sa, .slice ao ka ca, .slice uo ku cu] 76)).alloc (.cells #[.bool sb, .slice bo kb cb, .slice yo ky cy] 76)).alloc (.cells #[.bool false, .slice none 0 0, .slice none 0 0] 76)).heap.size (((w.alloc (.cells #[.bool sa, .slice ao ka ca, .slice uo ku cu] 76)).alloc (.cells #[.bool sb, .slice bo kb cb, .slice yo ky cy] 76)).alloc (.cells #[.bool false, .slice none 0 0, .slice none 0 0] 76))).drew); rintro e w1 ⟨hb1, v1, rfl, hR1⟩; have hx1 := HX0.out.drew.below hb1; have hw1 := (Below.refl (((w.alloc (.cells #[.bool sa, .slice ao ka ca, .slice uo ku cu] 76)).alloc (.cells #[.bool sb, .slice bo kb cb, .slice yo ky cy] 76)).alloc (.cells #[.bool false, .slice none 0 0, .slice none 0 0] 76)).heap.size (((w.alloc (.cells #[.bool sa, .slice ao ka ca, .slice uo ku cu] 76)).alloc (.cells #[.bool sb, .slice bo kb cb, .slice yo ky cy] 76)).alloc (.cells #[.bool false, .slice none 0 0, .slice none 0 0] 76))).drew.trans (hb1.mono ((Below.refl (((w.alloc (.cells #[.bool sa, .slice ao ka ca, .slice uo ku cu] 76)).alloc (.cells #[.bool sb, .slice bo kb cb, .slice yo ky cy] 76)).alloc (.cells #[.bool false, .slice none 0 0, .slice none 0 0] 76)).heap.size (((w.alloc (.cells #[.bool sa, .slice ao ka ca, .slice uo ku cu] 76)).alloc (.cells #[.bool sb, .slice bo kb cb, .slice yo ky cy] 76)).alloc (.cells #[.bool false, .slice none 0 0, .slice none 0 0] 76))).drew).size); obtain ⟨a_0, a_1, a_2, -⟩ := three_cells (hx1).b0; obtain ⟨a_3, a_4, a_5, -⟩ := three_cells (hx1).b1)
      | (go_at_call 69; (with_reducible refine (HOU.out _ _ ?h1 ?h2).mono ?_); (case h1 => exact hw1); (case h2 => exact hR1); rintro e w3 ⟨hb3, v3, rfl, hR3⟩; obtain ⟨s3, o3, k3, c3, u3, j3, d3, rfl, g1, g2, g3, g4⟩ := hR3.form; have G1 := Kept.mk g1; have G2 := Kept.mk g2; have G3 := Kept.mk g3; clear g1 g2 g3 g4; have hx3 := hx1.below hb3; obtain ⟨b_0, b_1, b_2, -⟩ := three_cells (hx3).b0; obtain ⟨b_3, b_4, b_5, -⟩ := three_cells (hx3).b1; obtain ⟨x0, x1, x2, f0, f1, f2⟩ := three_cells hx3.b2; have hsz := hx3.l3)))
  have HX3 := Kept.mk hx3
  have HE := Kept.mk (fun W' => rat_end (p := FN) (q := FD) (w := w) HX3.out.b2 HX3.out.1 (by omega) G1.out G2.out G3.out W')
  clear hb1 hb3 hx1 hx3 hw1 hR1 hR3
  go_wp2
  have hE := HE.out _ rfl
  exact bodyPost_ret (v := .tuple #[.agg #[.bool s3, .slice o3 k3 c3, .slice u3 j3 d3], .int .i64 0]) (by simp [results, Tryz.results70, go_sem, hE.2.2.1, hE.2.2.2.1, hE.2.2.2.2]) rfl ⟨hE.1, _, rfl, hE.2.1⟩
set_option maxRecDepth 20000 in
set_option maxHeartbeats 4000000 in
theorem rinverse_any {Lb : Nat} {vb : Value} {r t : Int} {w : World} (hb : RatV Lb w vb r t) (hl : Low r t) (hr : r ≠ 0) (h2 : Lb ≤ 67108864) :
    Calls Tryz.prog 125 #[vb] w (RetRat (max Lb 1) w (sgn (decide (r < 0)) t) (r.natAbs : Int)) := by
  obtain ⟨LL, hLL⟩ : ∃ LL, LL = max Lb 1 := ⟨_, rfl⟩
  rw [← hLL]
  have ht := hl.1
  obtain ⟨sb, bo, kb, cb, yo, ky, cy, rfl, rb1, rb2, rb3, rb4⟩ := hb.form
  have HX0 : Kept (Bxs w [.cells #[.bool sb, .slice bo kb cb, .slice yo ky cy] 76, .cells #[.bool false, .slice none 0 0, .slice none 0 0] 76] ((w.alloc (.cells #[.bool sb, .slice bo kb cb, .slice yo ky cy] 76)).alloc (.cells #[.bool false, .slice none 0 0, .slice none 0 0] 76))) := ⟨((Bxs.start w).alloc (by simp) _).alloc (by simp) _⟩
  have HB := Kept.mk (hb.below HX0.out.1)
  obtain ⟨P, hP⟩ : ∃ P, sgn sb t = P := ⟨_, rfl⟩
  rw [← rb1, hP]
  have hg : Int.gcd P (r.natAbs : Int) = 1 := by
    have h1 := hl.2
    rw [← hP]
    unfold sgn
    split
    · simpa [Int.gcd, Nat.gcd_comm] using h1
    · simpa [Int.gcd, Nat.gcd_comm] using h1
  have HDN : Kept (∀ W, Below ((w.alloc (.cells #[.bool sb, .slice bo kb cb, .slice yo ky cy] 76)).alloc (.cells #[.bool false, .slice none 0 0, .slice none 0 0] 76)).heap.size ((w.alloc (.cells #[.bool sb, .slice bo kb cb, .slice yo ky cy] 76)).alloc (.cells #[.bool false, .slice none 0 0, .slice none 0 0] 76)) W → Calls Tryz.prog 118 #[.agg #[.bool sb, .slice bo kb cb, .slice yo ky cy]] W (RetNum LL W t)) := ⟨fun W h => by rw [hLL]; exact denominator_any (HB.out.below h) ht (by omega)⟩
  have HLW : Kept (∀ W v, Below ((w.alloc (.cells #[.bool sb, .slice bo kb cb, .slice yo ky cy] 76)).alloc (.cells #[.bool false, .slice none 0 0, .slice none 0 0] 76)).heap.size ((w.alloc (.cells #[.bool sb, .slice bo kb cb, .slice yo ky cy] 76)).alloc (.cells #[.bool false, .slice none 0 0, .slice none 0 0] 76)) W → IntV LL W v P → Calls Tryz.prog 120 #[v, .slice bo kb cb] W (RetRat LL W P (r.natAbs : Int))) := ⟨fun W v h hv => by
    have hc := lowest_any hv (((hb.int).parts2.below HX0.out.1).below h) (by omega) (by omega) (by omega)
    rw [hg, show ((1 : Nat) : Int) = 1 from rfl, Int.ediv_one, Int.ediv_one] at hc
    exact hc.mono fun e w' ⟨h1, v', he, hR⟩ => ⟨h1, v', he, hR.mono (by omega)⟩⟩
  have HP := Kept.mk hP
  clear hb rb1 rb2 rb3 rb4 hP hg hLL hl
  obtain ⟨i0, i1, i2, -⟩ := three_cells (HX0.out).b0
  have hA0 : ¬ w.heap.size = w.heap.size + 1 := by omega
  go_enter Tryz.func125, Tryz.ntmps125
  go_wp2_with fail
  go_region_held3 (fun w' => w'.cell? ⟨w.heap.size, 0, none⟩ = some (.bool sb) ∧ w'.cell? ⟨w.heap.size, 1, none⟩ = some (.slice bo kb cb) ∧ w'.cell? ⟨w.heap.size, 2, none⟩ = some (.slice yo ky cy))
    (first | (with_reducible exact ⟨c_0, c_1, c_2⟩) | (with_reducible exact ⟨b_0, b_1, b_2⟩) | (with_reducible exact ⟨a_0, a_1, a_2⟩) | (with_reducible exact ⟨i0, i1, i2⟩) | (with_reducible exact ⟨(cell3 hA0).trans c_0, (cell3 hA0).trans c_1, (cell3 hA0).trans c_2⟩) | go_keep)
    ((first
      | (go_at_call 118; (with_reducible refine (HDN.out _ ?h1).mono ?_); (case h1 => exact (Below.refl ((w.alloc (.cells #[.bool sb, .slice bo kb cb, .slice yo ky cy] 76)).alloc (.cells #[.bool false, .slice none 0 0, .slice none 0 0] 76)).heap.size ((w.alloc (.cells #[.bool sb, .slice bo kb cb, .slice yo ky cy] 76)).alloc (.cells #[.bool false, .slice none 0 0, .slice none 0 0] 76))).drew); rintro e w1 ⟨hb1, v1, rfl, hn1, hf1⟩; have hx1 := HX0.out.drew.below hb1; have hw1 := (Below.refl ((w.alloc (.cells #[.bool sb, .slice bo kb cb, .slice yo ky cy] 76)).alloc (.cells #[.bool false, .slice none 0 0, .slice none 0 0] 76)).heap.size ((w.alloc (.cells #[.bool sb, .slice bo kb cb, .slice yo ky cy] 76)).alloc (.cells #[.bool false, .slice none 0 0, .slice none 0 0] 76))).drew.trans hb1; obtain ⟨a_0, a_1, a_2, -⟩ := three_cells (hx1).b0)
      | (go_at_call 83; (with_reducible refine (signed_any sb hn1).mono ?_); rintro e w2 ⟨hb2, v2, rfl, hI2⟩; have hx2 := hx1.below hb2; have hw2 := hw1.trans (hb2.mono hw1.size); obtain ⟨b_0, b_1, b_2, -⟩ := three_cells (hx2).b0)
      | (go_at_call 120; (with_reducible refine (HLW.out _ _ ?h1 ?h2).mono ?_); (case h1 => exact hw2); (case h2 => exact (HP.out ▸ hI2)); rintro e w3 ⟨hb3, v3, rfl, hR3⟩; obtain ⟨s3, o3, k3, c3, u3, j3, d3, rfl, g1, g2, g3, g4⟩ := hR3.form; have G1 := Kept.mk g1; have G2 := Kept.mk g2; have G3 := Kept.mk g3; clear g1 g2 g3 g4; have hx3 := hx2.below hb3; obtain ⟨c_0, c_1, c_2, -⟩ := three_cells (hx3).b0; obtain ⟨x0, x1, x2, f0, f1, f2⟩ := three_cells hx3.b1; have hsz := hx3.l2)))
  have HX3 := Kept.mk hx3
  have HE := Kept.mk (fun W' => rat_end (p := P) (q := (r.natAbs : Int)) (w := w) HX3.out.b1 HX3.out.1 (by omega) G1.out G2.out G3.out W')
  clear hb1 hb2 hb3 hx1 hx2 hx3 hw1 hw2 hI2 hn1 hR3
  go_wp2
  have hE := HE.out _ rfl
  exact bodyPost_ret (v := .agg #[.bool s3, .slice o3 k3 c3, .slice u3 j3 d3]) (by simp [results, Tryz.results125, go_sem, hE.2.2.1, hE.2.2.2.1, hE.2.2.2.2]) rfl ⟨hE.1, _, rfl, hE.2.1⟩
set_option maxRecDepth 20000 in
set_option maxHeartbeats 4000000 in
theorem rquoq_any {La Lb : Nat} {va vb : Value} {p q r t : Int} {w : World} (ha : RatV La w va p q) (hb : RatV Lb w vb r t) (hq : 0 < q) (hl : Low r t) (hr : r ≠ 0) (h1 : La ≤ 67108864) (h2 : Lb ≤ 67108863) (hsm : smR (frN (p * t) (q * r)) (frD (p * t) (q * r)) = true) :
    Calls Tryz.prog 76 #[va, vb] w (MkRet (La + (max Lb 1) + 2) w (frN (p * t) (q * r)) (frD (p * t) (q * r))) := by
  obtain ⟨FN, hFN⟩ : ∃ x, frN (p * t) (q * r) = x := ⟨_, rfl⟩
  obtain ⟨FD, hFD⟩ : ∃ x, frD (p * t) (q * r) = x := ⟨_, rfl⟩
  obtain ⟨LL, hLL⟩ : ∃ LL, La + (max Lb 1) + 2 = LL := ⟨_, rfl⟩
  have h2 : Lb ≤ 67108864 := by omega
  obtain ⟨sa, ao, ka, ca, uo, ku, cu, rfl, ra1, ra2, ra3, ra4⟩ := ha.form
  obtain ⟨sb, bo, kb, cb, yo, ky, cy, rfl, rb1, rb2, rb3, rb4⟩ := hb.form
  have HX0 : Kept (Bxs w [.cells #[.bool sa, .slice ao ka ca, .slice uo ku cu] 76, .cells #[.bool sb, .slice bo kb cb, .slice yo ky cy] 76, .cells #[.bool false, .slice none 0 0, .slice none 0 0] 76] (((w.alloc (.cells #[.bool sa, .slice ao ka ca, .slice uo ku cu] 76)).alloc (.cells #[.bool sb, .slice bo kb cb, .slice yo ky cy] 76)).alloc (.cells #[.bool false, .slice none 0 0, .slice none 0 0] 76))) := ⟨(((Bxs.start w).alloc (by simp) _).alloc (by simp) _).alloc (by simp) _⟩
  have HA := Kept.mk (ha.below HX0.out.1)
  have HB := Kept.mk (hb.below HX0.out.1)
  have HIN : Kept (∀ W, Below (((w.alloc (.cells #[.bool sa, .slice ao ka ca, .slice uo ku cu] 76)).alloc (.cells #[.bool sb, .slice bo kb cb, .slice yo ky cy] 76)).alloc (.cells #[.bool false, .slice none 0 0, .slice none 0 0] 76)).heap.size (((w.alloc (.cells #[.bool sa, .slice ao ka ca, .slice uo ku cu] 76)).alloc (.cells #[.bool sb, .slice bo kb cb, .slice yo ky cy] 76)).alloc (.cells #[.bool false, .slice none 0 0, .slice none 0 0] 76)) W → Calls Tryz.prog 125 #[.agg #[.bool sb, .slice bo kb cb, .slice yo ky cy]] W (RetRat (max Lb 1) W (sgn (decide (r < 0)) t) (r.natAbs : Int))) := ⟨fun W h => rinverse_any (HB.out.below h) hl hr h2⟩
  have HOU : Kept (∀ W v, Below (((w.alloc (.cells #[.bool sa, .slice ao ka ca, .slice uo ku cu] 76)).alloc (.cells #[.bool sb, .slice bo kb cb, .slice yo ky cy] 76)).alloc (.cells #[.bool false, .slice none 0 0, .slice none 0 0] 76)).heap.size (((w.alloc (.cells #[.bool sa, .slice ao ka ca, .slice uo ku cu] 76)).alloc (.cells #[.bool sb, .slice bo kb cb, .slice yo ky cy] 76)).alloc (.cells #[.bool false, .slice none 0 0, .slice none 0 0] 76)) W → RatV (max Lb 1) W v (sgn (decide (r < 0)) t) (r.natAbs : Int) → Calls Tryz.prog 71 #[.agg #[.bool sa, .slice ao ka ca, .slice uo ku cu], v] W (MkRet LL W FN FD)) := ⟨fun W v h hv => by rw [← hFN, ← hFD, ← hLL]; exact (by have e := fr_inv (p := p) (q := q) (t := t) hr (by omega); have hc := rmul_any (HA.out.below h) hv hq (by omega) h1 (by omega) (by rw [e.1, e.2]; exact hsm); rw [e.1, e.2] at hc; exact hc)⟩
  rw [hFN, hFD, hLL]
  obtain ⟨σ, hσ0, hσ⟩ : ∃ σ : Int, (σ == 0) = false ∧ Dg.sg r 0 = σ := by
    refine ⟨_, ?_, rfl⟩
    rcases Int.lt_trichotomy r 0 with h | h | h
    · rw [Dg.sg_lt h]; rfl
    · exact absurd h hr
    · rw [Dg.sg_gt h]; rfl
  have HSG : Kept (∀ W, Below (((w.alloc (.cells #[.bool sa, .slice ao ka ca, .slice uo ku cu] 76)).alloc (.cells #[.bool sb, .slice bo kb cb, .slice yo ky cy] 76)).alloc (.cells #[.bool false, .slice none 0 0, .slice none 0 0] 76)).heap.size (((w.alloc (.cells #[.bool sa, .slice ao ka ca, .slice uo ku cu] 76)).alloc (.cells #[.bool sb, .slice bo kb cb, .slice yo ky cy] 76)).alloc (.cells #[.bool false, .slice none 0 0, .slice none 0 0] 76)) W → Calls Tryz.prog 59 #[.agg #[.bool sb, .slice bo kb cb, .slice yo ky cy]] W (RetV W (.int .i64 σ))) := ⟨fun W h => by have hc := rsign_any (HB.out.below h); rw [hσ] at hc; exact hc⟩
  clear ha hb ra1 ra2 ra3 ra4 rb1 rb2 rb3 rb4 hFN hFD hLL hsm hσ
  obtain ⟨i0, i1, i2, -⟩ := three_cells (HX0.out).b0; obtain ⟨i3, i4, i5, -⟩ := three_cells (HX0.out).b1
  have hA0 : ¬ w.heap.size = w.heap.size + 1 + 1 := by omega
  have hA1 : ¬ w.heap.size + 1 = w.heap.size + 1 + 1 := by omega
  go_enter Tryz.func76, Tryz.ntmps76
  go_wp2_with fail
  refine (HSG.out _ (Below.refl _ _)).mono ?_
  rintro e w9 ⟨hb9, rfl⟩
  have HX9 := Kept.mk (HX0.out.below hb9)
  have HW9 := Kept.mk hb9
  clear hb9 i0 i1 i2 i3 i4 i5
  obtain ⟨i0, i1, i2, -⟩ := three_cells (HX9.out).b0; obtain ⟨i3, i4, i5, -⟩ := three_cells (HX9.out).b1
  go_wp2_with fail
  go_region_held3 (fun w' => w'.cell? ⟨w.heap.size, 0, none⟩ = some (.bool sa) ∧ w'.cell? ⟨w.heap.size, 1, none⟩ = some (.slice ao ka ca) ∧ w'.cell? ⟨w.heap.size, 2, none⟩ = some (.slice uo ku cu) ∧ w'.cell? ⟨w.heap.size + 1, 0, none⟩ = some (.bool sb) ∧ w'.cell? ⟨w.heap.size + 1, 1, none⟩ = some (.slice bo kb cb) ∧ w'.cell? ⟨w.heap.size + 1, 2, none⟩ = some (.slice yo ky cy))
    (first | (with_reducible exact ⟨b_0, b_1, b_2, b_3, b_4, b_5⟩) | (with_reducible exact ⟨a_0, a_1, a_2, a_3, a_4, a_5⟩) | (with_reducible exact ⟨i0, i1, i2, i3, i4, i5⟩) | (with_reducible exact ⟨(cell3 hA0).trans b_0, (cell3 hA0).trans b_1, (cell3 hA0).trans b_2, (cell3 hA1).trans b_3, (cell3 hA1).trans b_4, (cell3 hA1).trans b_5⟩) | go_keep)
    ((first
      | (go_at_call 125; (with_reducible refine (HIN.out _ ?h1).mono ?_); (case h1 => exact HW9.out.drew); rintro e w1 ⟨hb1, v1, rfl, hR1⟩; have hx1 := HX9.out.drew.below hb1; have hw1 := HW9.out.drew.trans (hb1.mono (HW9.out.drew).size); obtain ⟨a_0, a_1, a_2, -⟩ := three_cells (hx1).b0; obtain ⟨a_3, a_4, a_5, -⟩ := three_cells (hx1).b1)
      | (go_at_call 71; (with_reducible refine (HOU.out _ _ ?h1 ?h2).mono ?_); (case h1 => exact hw1); (case h2 => exact hR1); rintro e w3 ⟨hb3, v3, rfl, hR3⟩; obtain ⟨s3, o3, k3, c3, u3, j3, d3, rfl, g1, g2, g3, g4⟩ := hR3.form; have G1 := Kept.mk g1; have G2 := Kept.mk g2; have G3 := Kept.mk g3; clear g1 g2 g3 g4; have hx3 := hx1.below hb3; obtain ⟨b_0, b_1, b_2, -⟩ := three_cells (hx3).b0; obtain ⟨b_3, b_4, b_5, -⟩ := three_cells (hx3).b1; obtain ⟨x0, x1, x2, f0, f1, f2⟩ := three_cells hx3.b2; have hsz := hx3.l3)))
  have HX3 := Kept.mk hx3
  have HE := Kept.mk (fun W' => rat_end (p := FN) (q := FD) (w := w) HX3.out.b2 HX3.out.1 (by omega) G1.out G2.out G3.out W')
  clear hb1 hb3 hx1 hx3 hw1 hR1 hR3
  go_wp2
  have hE := HE.out _ rfl
  exact bodyPost_ret (v := .tuple #[.agg #[.bool s3, .slice o3 k3 c3, .slice u3 j3 d3], .int .i64 0]) (by simp [results, Tryz.results76, go_sem, hE.2.2.1, hE.2.2.2.1, hE.2.2.2.2]) rfl ⟨hE.1, _, rfl, hE.2.1⟩
end Go.Proofs.YtblbheilddafbaaGreatDoor
