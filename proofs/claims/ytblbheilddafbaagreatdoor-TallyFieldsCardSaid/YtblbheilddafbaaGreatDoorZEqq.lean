/-
  Texts of the proof, merged by program: Qop Qoq Qfm Eqq.
-/
import Derived.Test.YtblbheilddafbaaGreatDoorZRra
import Derived.Test.YtblbheilddafbaaGreatDoorZRpw
import Derived.Test.YtblbheilddafbaaGreatDoorZ15
set_option linter.unusedVariables false
set_option linter.unusedSimpArgs false
namespace Go.Proofs.YtblbheilddafbaaGreatDoor
open Go Go.RowKit
theorem cell4 {W : World} {g b o : Nat} {u1 u2 u3 u4 : Value} (h : ¬ b = g) : ((((W.setCell ⟨g, 0, none⟩ u1).setCell ⟨g, 1, none⟩ u2).setCell ⟨g, 2, none⟩ u3).setCell ⟨g, 3, none⟩ u4).cell? ⟨b, o, none⟩ = W.cell? ⟨b, o, none⟩ :=
  (World.cell?_setCell_far _ ⟨g, 3, none⟩ ⟨b, o, none⟩ u4 (fun e => h e.symm)).trans ((World.cell?_setCell_far _ ⟨g, 2, none⟩ ⟨b, o, none⟩ u3 (fun e => h e.symm)).trans ((World.cell?_setCell_far _ ⟨g, 1, none⟩ ⟨b, o, none⟩ u2 (fun e => h e.symm)).trans (World.cell?_setCell_far _ ⟨g, 0, none⟩ ⟨b, o, none⟩ u1 (fun e => h e.symm))))
set_option maxRecDepth 20000 in
set_option maxHeartbeats 8000000 in
theorem rcompare_any {L : Nat} {va vb : Value} {p1 q1 p2 q2 : Int} {w : World} (ha : QV L w va p1 q1) (hb : QV L w vb p2 q2)  (hL : L ≤ 10000000) :
    Calls Tryz.prog 75 #[va, vb] w (RetV w (.int .i64 (Dg.sg (p1 * q2) (p2 * q1)))) := by
  obtain ⟨s1, o1, k1, c1, s2, o2, k2, c2, rfl, hx1, hx2⟩ := ha.form
  obtain ⟨t1, a1, j1, d1, t2, a2, j2, d2, rfl, hy1, hy2⟩ := hb.form
  have HX0 : Kept (Bxs w [.cells #[.bool s1, .slice o1 k1 c1, .bool s2, .slice o2 k2 c2] 72, .cells #[.bool t1, .slice a1 j1 d1, .bool t2, .slice a2 j2 d2] 72] ((w.alloc (.cells #[.bool s1, .slice o1 k1 c1, .bool s2, .slice o2 k2 c2] 72)).alloc (.cells #[.bool t1, .slice a1 j1 d1, .bool t2, .slice a2 j2 d2] 72))) := ⟨((Bxs.start w).alloc (by simp) _).alloc (by simp) _⟩
  obtain ⟨CC, hCC⟩ : ∃ x, Dg.sg (p1 * q2) (p2 * q1) = x := ⟨_, rfl⟩
  rw [hCC]
  have HCC := Kept.mk hCC
  have HX1 := Kept.mk (hx1.below HX0.out.1)
  have HX2 := Kept.mk (hx2.below HX0.out.1)
  have HY1 := Kept.mk (hy1.below HX0.out.1)
  have HY2 := Kept.mk (hy2.below HX0.out.1)
  clear hx1 hx2 hy1 hy2 ha hb hCC
  go_enter Tryz.func75, Tryz.ntmps75
  go_wp2_with fail
  generalize ((w.alloc (.cells #[.bool s1, .slice o1 k1 c1, .bool s2, .slice o2 k2 c2] 72)).alloc (.cells #[.bool t1, .slice a1 j1 d1, .bool t2, .slice a2 j2 d2] 72)) = ws at *
  have HM1 : Kept (∀ W, Below ws.heap.size ws W → Calls Tryz.prog 43 #[.agg #[.bool s1, .slice o1 k1 c1], .agg #[.bool t2, .slice a2 j2 d2]] W (RetZ (2 * L) W (p1 * q2))) := ⟨fun W h => by rw [Nat.two_mul]; exact rmulz_any (HX1.out.below h) (HY2.out.below h) (by omega) (by omega)⟩
  have HM2 : Kept (∀ W, Below ws.heap.size ws W → Calls Tryz.prog 43 #[.agg #[.bool t1, .slice a1 j1 d1], .agg #[.bool s2, .slice o2 k2 c2]] W (RetZ (2 * L) W (p2 * q1))) := ⟨fun W h => by rw [Nat.two_mul]; exact rmulz_any (HY1.out.below h) (HX2.out.below h) (by omega) (by omega)⟩
  have HMR : Kept (∀ W u v, ZV (2 * L) W u (p1 * q2) → ZV (2 * L) W v (p2 * q1) → Calls Tryz.prog 35 #[u, v] W (RetV W (.int .i64 CC))) := ⟨fun W u v h h' => by have hc := rcmpz_any h h' (by omega) (by omega); rw [HCC.out] at hc; exact hc⟩
  obtain ⟨i0, i1, i2, i3, -⟩ := four_cells (HX0.out).b0; obtain ⟨i4, i5, i6, i7, -⟩ := four_cells (HX0.out).b1
  go_region_held3 (fun w' => w'.cell? ⟨w.heap.size, 0, none⟩ = some (.bool s1) ∧ w'.cell? ⟨w.heap.size, 1, none⟩ = some (.slice o1 k1 c1) ∧ w'.cell? ⟨w.heap.size, 2, none⟩ = some (.bool s2) ∧ w'.cell? ⟨w.heap.size, 3, none⟩ = some (.slice o2 k2 c2) ∧ w'.cell? ⟨w.heap.size + 1, 0, none⟩ = some (.bool t1) ∧ w'.cell? ⟨w.heap.size + 1, 1, none⟩ = some (.slice a1 j1 d1) ∧ w'.cell? ⟨w.heap.size + 1, 2, none⟩ = some (.bool t2) ∧ w'.cell? ⟨w.heap.size + 1, 3, none⟩ = some (.slice a2 j2 d2))
    (first | (with_reducible exact ⟨kc_0, kc_1, kc_2, kc_3, kc_4, kc_5, kc_6, kc_7⟩) | (with_reducible exact ⟨kb_0, kb_1, kb_2, kb_3, kb_4, kb_5, kb_6, kb_7⟩) | (with_reducible exact ⟨ka_0, ka_1, ka_2, ka_3, ka_4, ka_5, ka_6, ka_7⟩) | (with_reducible exact ⟨i0, i1, i2, i3, i4, i5, i6, i7⟩) | go_keep)
    ((first
      | (go_at_call 43; (with_reducible refine (HM1.out _ ?h1).mono ?_); (case h1 => exact (Below.refl ws.heap.size ws).drew); rintro e w1 ⟨hb1, v1, rfl, hz1_1⟩; have hx1 := HX0.out.drew.below hb1; have hbw1 := (Below.refl ws.heap.size ws).drew.trans (hb1.mono (Below.refl ws.heap.size ws).drew.size); obtain ⟨ka_0, ka_1, ka_2, ka_3, -⟩ := four_cells (hx1).b0; obtain ⟨ka_4, ka_5, ka_6, ka_7, -⟩ := four_cells (hx1).b1)
      | (go_at_call 43; (with_reducible refine (HM2.out _ ?h1).mono ?_); (case h1 => exact hbw1); rintro e w2 ⟨hb2, v2, rfl, hz2_2⟩; have hx2 := hx1.below hb2; have hbw2 := hbw1.trans (hb2.mono hbw1.size); obtain ⟨kb_0, kb_1, kb_2, kb_3, -⟩ := four_cells (hx2).b0; obtain ⟨kb_4, kb_5, kb_6, kb_7, -⟩ := four_cells (hx2).b1; have hz1_2 := hz1_1.below hb2)
      | (go_at_call 35; (with_reducible refine (HMR.out _ _ _ ?h1 ?h2).mono ?_); (case h1 => exact hz1_2); (case h2 => exact hz2_2); rintro e w3 ⟨hb3, rfl⟩; have hx3 := hx2.below hb3; have hbw3 := hbw2.trans (hb3.mono hbw2.size); obtain ⟨kc_0, kc_1, kc_2, kc_3, -⟩ := four_cells (hx3).b0; obtain ⟨kc_4, kc_5, kc_6, kc_7, -⟩ := four_cells (hx3).b1)))
  have HXn := Kept.mk hx3
  go_wp2
  go_ret
  exact ⟨HXn.out.1, rfl⟩
set_option maxRecDepth 20000 in
set_option maxHeartbeats 8000000 in
theorem rtimesq_any {L : Nat} {va vb : Value} {p1 q1 p2 q2 : Int} {w : World} (ha : QV L w va p1 q1) (hb : QV L w vb p2 q2) (hne : q1 * q2 ≠ 0) (hL : L ≤ 10000000) :
    Calls Tryz.prog 73 #[va, vb] w (RetQ (2 * L + 1) w (frN (p1 * p2) (q1 * q2)) (frD (p1 * p2) (q1 * q2))) := by
  obtain ⟨s1, o1, k1, c1, s2, o2, k2, c2, rfl, hx1, hx2⟩ := ha.form
  obtain ⟨t1, a1, j1, d1, t2, a2, j2, d2, rfl, hy1, hy2⟩ := hb.form
  have HX0 : Kept (Bxs w [.cells #[.bool s1, .slice o1 k1 c1, .bool s2, .slice o2 k2 c2] 72, .cells #[.bool t1, .slice a1 j1 d1, .bool t2, .slice a2 j2 d2] 72, .cells #[.bool false, .slice none 0 0, .bool false, .slice none 0 0] 72] (((w.alloc (.cells #[.bool s1, .slice o1 k1 c1, .bool s2, .slice o2 k2 c2] 72)).alloc (.cells #[.bool t1, .slice a1 j1 d1, .bool t2, .slice a2 j2 d2] 72)).alloc (.cells #[.bool false, .slice none 0 0, .bool false, .slice none 0 0] 72))) := ⟨(((Bxs.start w).alloc (by simp) _).alloc (by simp) _).alloc (by simp) _⟩
  obtain ⟨FN, hFN⟩ : ∃ x, frN (p1 * p2) (q1 * q2) = x := ⟨_, rfl⟩
  obtain ⟨FD, hFD⟩ : ∃ x, frD (p1 * p2) (q1 * q2) = x := ⟨_, rfl⟩
  rw [hFN, hFD]
  have HFN := Kept.mk hFN
  have HFD := Kept.mk hFD
  have HX1 := Kept.mk (hx1.below HX0.out.1)
  have HX2 := Kept.mk (hx2.below HX0.out.1)
  have HY1 := Kept.mk (hy1.below HX0.out.1)
  have HY2 := Kept.mk (hy2.below HX0.out.1)
  have HNE := Kept.mk hne
  clear hx1 hx2 hy1 hy2 ha hb hFN hFD hne
  go_enter Tryz.func73, Tryz.ntmps73
  go_wp2_with fail
  generalize (((w.alloc (.cells #[.bool s1, .slice o1 k1 c1, .bool s2, .slice o2 k2 c2] 72)).alloc (.cells #[.bool t1, .slice a1 j1 d1, .bool t2, .slice a2 j2 d2] 72)).alloc (.cells #[.bool false, .slice none 0 0, .bool false, .slice none 0 0] 72)) = ws at *
  have HM1 : Kept (∀ W, Below ws.heap.size ws W → Calls Tryz.prog 43 #[.agg #[.bool s1, .slice o1 k1 c1], .agg #[.bool t1, .slice a1 j1 d1]] W (RetZ (2 * L) W (p1 * p2))) := ⟨fun W h => by rw [Nat.two_mul]; exact rmulz_any (HX1.out.below h) (HY1.out.below h) (by omega) (by omega)⟩
  have HM4 : Kept (∀ W, Below ws.heap.size ws W → Calls Tryz.prog 43 #[.agg #[.bool s2, .slice o2 k2 c2], .agg #[.bool t2, .slice a2 j2 d2]] W (RetZ (2 * L) W (q1 * q2))) := ⟨fun W h => by rw [Nat.two_mul]; exact rmulz_any (HX2.out.below h) (HY2.out.below h) (by omega) (by omega)⟩
  have HMR : Kept (∀ W u v, ZV (2 * L) W u (p1 * p2) → ZV (2 * L) W v (q1 * q2) → Calls Tryz.prog 67 #[u, v] W (RetQ (2 * L + 1) W FN FD)) := ⟨fun W u v h h' => by have hc := rratio_any (h.mono (show (2 * L) ≤ 2 * L + 1 by omega)) (h'.mono (show (2 * L) ≤ 2 * L + 1 by omega)) HNE.out (by omega) (by omega); rw [Nat.max_self, HFN.out, HFD.out] at hc; exact hc⟩
  obtain ⟨i0, i1, i2, i3, -⟩ := four_cells (HX0.out).b0; obtain ⟨i4, i5, i6, i7, -⟩ := four_cells (HX0.out).b1
  have hA2 : ¬ w.heap.size = w.heap.size + 1 + 1 := by omega
  have hB2 : ¬ w.heap.size + 1 = w.heap.size + 1 + 1 := by omega
  go_region_held3 (fun w' => w'.cell? ⟨w.heap.size, 0, none⟩ = some (.bool s1) ∧ w'.cell? ⟨w.heap.size, 1, none⟩ = some (.slice o1 k1 c1) ∧ w'.cell? ⟨w.heap.size, 2, none⟩ = some (.bool s2) ∧ w'.cell? ⟨w.heap.size, 3, none⟩ = some (.slice o2 k2 c2) ∧ w'.cell? ⟨w.heap.size + 1, 0, none⟩ = some (.bool t1) ∧ w'.cell? ⟨w.heap.size + 1, 1, none⟩ = some (.slice a1 j1 d1) ∧ w'.cell? ⟨w.heap.size + 1, 2, none⟩ = some (.bool t2) ∧ w'.cell? ⟨w.heap.size + 1, 3, none⟩ = some (.slice a2 j2 d2))
    (first | (with_reducible exact ⟨kc_0, kc_1, kc_2, kc_3, kc_4, kc_5, kc_6, kc_7⟩) | (with_reducible exact ⟨kb_0, kb_1, kb_2, kb_3, kb_4, kb_5, kb_6, kb_7⟩) | (with_reducible exact ⟨ka_0, ka_1, ka_2, ka_3, ka_4, ka_5, ka_6, ka_7⟩) | (with_reducible exact ⟨i0, i1, i2, i3, i4, i5, i6, i7⟩) | (with_reducible exact ⟨(cell4 hA2).trans kc_0, (cell4 hA2).trans kc_1, (cell4 hA2).trans kc_2, (cell4 hA2).trans kc_3, (cell4 hB2).trans kc_4, (cell4 hB2).trans kc_5, (cell4 hB2).trans kc_6, (cell4 hB2).trans kc_7⟩) | go_keep)
    ((first
      | (go_at_call 43; (with_reducible refine (HM1.out _ ?h1).mono ?_); (case h1 => exact (Below.refl ws.heap.size ws).drew); rintro e w1 ⟨hb1, v1, rfl, hz1_1⟩; have hx1 := HX0.out.drew.below hb1; have hbw1 := (Below.refl ws.heap.size ws).drew.trans (hb1.mono (Below.refl ws.heap.size ws).drew.size); obtain ⟨ka_0, ka_1, ka_2, ka_3, -⟩ := four_cells (hx1).b0; obtain ⟨ka_4, ka_5, ka_6, ka_7, -⟩ := four_cells (hx1).b1)
      | (go_at_call 43; (with_reducible refine (HM4.out _ ?h1).mono ?_); (case h1 => exact hbw1); rintro e w2 ⟨hb2, v2, rfl, hz4_2⟩; have hx2 := hx1.below hb2; have hbw2 := hbw1.trans (hb2.mono hbw1.size); obtain ⟨kb_0, kb_1, kb_2, kb_3, -⟩ := four_cells (hx2).b0; obtain ⟨kb_4, kb_5, kb_6, kb_7, -⟩ := four_cells (hx2).b1; have hz1_2 := hz1_1.below hb2)
      | (go_at_call 67; (with_reducible refine (HMR.out _ _ _ ?h1 ?h2).mono ?_); (case h1 => exact hz1_2); (case h2 => exact hz4_2); rintro e w3 ⟨hb3, v3, rfl, hq⟩; obtain ⟨s5, o5, k5, c5, s6, o6, k6, c6, rfl, hp5, hp6⟩ := hq.form; have hx3 := hx2.below hb3; have hbw3 := hbw2.trans (hb3.mono hbw2.size); obtain ⟨kc_0, kc_1, kc_2, kc_3, -⟩ := four_cells (hx3).b0; obtain ⟨kc_4, kc_5, kc_6, kc_7, -⟩ := four_cells (hx3).b1; obtain ⟨r0, r1, r2, r3, f0, f1, f2, f3⟩ := four_cells hx3.b2; have hszr := hx3.l3)))
  have HXn := Kept.mk hx3
  have HP5 := Kept.mk hp5
  have HP6 := Kept.mk hp6
  have HE := Kept.mk (fun W' => q_end (L := 2 * L + 1) (w := w) HXn.out.b2 HXn.out.1 (by omega) HP5.out HP6.out W')
  go_wp2
  have hE := HE.out _ rfl
  exact bodyPost_ret (v := .agg #[.bool s5, .slice o5 k5 c5, .bool s6, .slice o6 k6 c6]) (by simp [results, Tryz.results73, go_sem, hE.2.2.1, hE.2.2.2.1, hE.2.2.2.2.1, hE.2.2.2.2.2]) rfl ⟨hE.1, _, rfl, hE.2.1⟩
end Go.Proofs.YtblbheilddafbaaGreatDoor

set_option linter.unusedVariables false
set_option linter.unusedSimpArgs false
namespace Go.Proofs.YtblbheilddafbaaGreatDoor
open Go Go.RowKit
set_option maxRecDepth 20000 in
set_option maxHeartbeats 8000000 in
theorem rplus_any {L : Nat} {va vb : Value} {p1 q1 p2 q2 : Int} {w : World} (ha : QV L w va p1 q1) (hb : QV L w vb p2 q2) (hne : q1 * q2 ≠ 0) (hL : L ≤ 10000000) :
    Calls Tryz.prog 72 #[va, vb] w (RetQ (2 * L + 1) w (frN (p1 * q2 + p2 * q1) (q1 * q2)) (frD (p1 * q2 + p2 * q1) (q1 * q2))) := by
  obtain ⟨s1, o1, k1, c1, s2, o2, k2, c2, rfl, hx1, hx2⟩ := ha.form
  obtain ⟨t1, a1, j1, d1, t2, a2, j2, d2, rfl, hy1, hy2⟩ := hb.form
  have HX0 : Kept (Bxs w [.cells #[.bool s1, .slice o1 k1 c1, .bool s2, .slice o2 k2 c2] 72, .cells #[.bool t1, .slice a1 j1 d1, .bool t2, .slice a2 j2 d2] 72, .cells #[.bool false, .slice none 0 0, .bool false, .slice none 0 0] 72] (((w.alloc (.cells #[.bool s1, .slice o1 k1 c1, .bool s2, .slice o2 k2 c2] 72)).alloc (.cells #[.bool t1, .slice a1 j1 d1, .bool t2, .slice a2 j2 d2] 72)).alloc (.cells #[.bool false, .slice none 0 0, .bool false, .slice none 0 0] 72))) := ⟨(((Bxs.start w).alloc (by simp) _).alloc (by simp) _).alloc (by simp) _⟩
  obtain ⟨FN, hFN⟩ : ∃ x, frN (p1 * q2 + p2 * q1) (q1 * q2) = x := ⟨_, rfl⟩
  obtain ⟨FD, hFD⟩ : ∃ x, frD (p1 * q2 + p2 * q1) (q1 * q2) = x := ⟨_, rfl⟩
  rw [hFN, hFD]
  have HFN := Kept.mk hFN
  have HFD := Kept.mk hFD
  have HX1 := Kept.mk (hx1.below HX0.out.1)
  have HX2 := Kept.mk (hx2.below HX0.out.1)
  have HY1 := Kept.mk (hy1.below HX0.out.1)
  have HY2 := Kept.mk (hy2.below HX0.out.1)
  have HNE := Kept.mk hne
  clear hx1 hx2 hy1 hy2 ha hb hFN hFD hne
  go_enter Tryz.func72, Tryz.ntmps72
  go_wp2_with fail
  generalize (((w.alloc (.cells #[.bool s1, .slice o1 k1 c1, .bool s2, .slice o2 k2 c2] 72)).alloc (.cells #[.bool t1, .slice a1 j1 d1, .bool t2, .slice a2 j2 d2] 72)).alloc (.cells #[.bool false, .slice none 0 0, .bool false, .slice none 0 0] 72)) = ws at *
  have HM1 : Kept (∀ W, Below ws.heap.size ws W → Calls Tryz.prog 43 #[.agg #[.bool s1, .slice o1 k1 c1], .agg #[.bool t2, .slice a2 j2 d2]] W (RetZ (2 * L) W (p1 * q2))) := ⟨fun W h => by rw [Nat.two_mul]; exact rmulz_any (HX1.out.below h) (HY2.out.below h) (by omega) (by omega)⟩
  have HM2 : Kept (∀ W, Below ws.heap.size ws W → Calls Tryz.prog 43 #[.agg #[.bool t1, .slice a1 j1 d1], .agg #[.bool s2, .slice o2 k2 c2]] W (RetZ (2 * L) W (p2 * q1))) := ⟨fun W h => by rw [Nat.two_mul]; exact rmulz_any (HY1.out.below h) (HX2.out.below h) (by omega) (by omega)⟩
  have HM3 : Kept (∀ W u v, ZV (2 * L) W u (p1 * q2) → ZV (2 * L) W v (p2 * q1) → Calls Tryz.prog 41 #[u, v] W (RetZ (2 * L + 1) W ((p1 * q2) + (p2 * q1)))) := ⟨fun W u v h h' => by have hc := raddz_any h h' (by omega) (by omega); rw [Nat.max_self] at hc; exact hc⟩
  have HM4 : Kept (∀ W, Below ws.heap.size ws W → Calls Tryz.prog 43 #[.agg #[.bool s2, .slice o2 k2 c2], .agg #[.bool t2, .slice a2 j2 d2]] W (RetZ (2 * L) W (q1 * q2))) := ⟨fun W h => by rw [Nat.two_mul]; exact rmulz_any (HX2.out.below h) (HY2.out.below h) (by omega) (by omega)⟩
  have HMR : Kept (∀ W u v, ZV (2 * L + 1) W u (p1 * q2 + p2 * q1) → ZV (2 * L) W v (q1 * q2) → Calls Tryz.prog 67 #[u, v] W (RetQ (2 * L + 1) W FN FD)) := ⟨fun W u v h h' => by have hc := rratio_any (h.mono (show (2 * L + 1) ≤ 2 * L + 1 by omega)) (h'.mono (show (2 * L) ≤ 2 * L + 1 by omega)) HNE.out (by omega) (by omega); rw [Nat.max_self, HFN.out, HFD.out] at hc; exact hc⟩
  obtain ⟨i0, i1, i2, i3, -⟩ := four_cells (HX0.out).b0; obtain ⟨i4, i5, i6, i7, -⟩ := four_cells (HX0.out).b1
  have hA2 : ¬ w.heap.size = w.heap.size + 1 + 1 := by omega
  have hB2 : ¬ w.heap.size + 1 = w.heap.size + 1 + 1 := by omega
  go_region_held3 (fun w' => w'.cell? ⟨w.heap.size, 0, none⟩ = some (.bool s1) ∧ w'.cell? ⟨w.heap.size, 1, none⟩ = some (.slice o1 k1 c1) ∧ w'.cell? ⟨w.heap.size, 2, none⟩ = some (.bool s2) ∧ w'.cell? ⟨w.heap.size, 3, none⟩ = some (.slice o2 k2 c2) ∧ w'.cell? ⟨w.heap.size + 1, 0, none⟩ = some (.bool t1) ∧ w'.cell? ⟨w.heap.size + 1, 1, none⟩ = some (.slice a1 j1 d1) ∧ w'.cell? ⟨w.heap.size + 1, 2, none⟩ = some (.bool t2) ∧ w'.cell? ⟨w.heap.size + 1, 3, none⟩ = some (.slice a2 j2 d2))
    (first | (with_reducible exact ⟨ke_0, ke_1, ke_2, ke_3, ke_4, ke_5, ke_6, ke_7⟩) | (with_reducible exact ⟨kd_0, kd_1, kd_2, kd_3, kd_4, kd_5, kd_6, kd_7⟩) | (with_reducible exact ⟨kc_0, kc_1, kc_2, kc_3, kc_4, kc_5, kc_6, kc_7⟩) | (with_reducible exact ⟨kb_0, kb_1, kb_2, kb_3, kb_4, kb_5, kb_6, kb_7⟩) | (with_reducible exact ⟨ka_0, ka_1, ka_2, ka_3, ka_4, ka_5, ka_6, ka_7⟩) | (with_reducible exact ⟨i0, i1, i2, i3, i4, i5, i6, i7⟩) | (with_reducible exact ⟨(cell4 hA2).trans ke_0, (cell4 hA2).trans ke_1, (cell4 hA2).trans ke_2, (cell4 hA2).trans ke_3, (cell4 hB2).trans ke_4, (cell4 hB2).trans ke_5, (cell4 hB2).trans ke_6, (cell4 hB2).trans ke_7⟩) | go_keep)
    ((first
      | (go_at_call 43; (with_reducible refine (HM1.out _ ?h1).mono ?_); (case h1 => exact (Below.refl ws.heap.size ws).drew); rintro e w1 ⟨hb1, v1, rfl, hz1_1⟩; have hx1 := HX0.out.drew.below hb1; have hbw1 := (Below.refl ws.heap.size ws).drew.trans (hb1.mono (Below.refl ws.heap.size ws).drew.size); obtain ⟨ka_0, ka_1, ka_2, ka_3, -⟩ := four_cells (hx1).b0; obtain ⟨ka_4, ka_5, ka_6, ka_7, -⟩ := four_cells (hx1).b1)
      | (go_at_call 43; (with_reducible refine (HM2.out _ ?h1).mono ?_); (case h1 => exact hbw1); rintro e w2 ⟨hb2, v2, rfl, hz2_2⟩; have hx2 := hx1.below hb2; have hbw2 := hbw1.trans (hb2.mono hbw1.size); obtain ⟨kb_0, kb_1, kb_2, kb_3, -⟩ := four_cells (hx2).b0; obtain ⟨kb_4, kb_5, kb_6, kb_7, -⟩ := four_cells (hx2).b1; have hz1_2 := hz1_1.below hb2)
      | (go_at_call 41; (with_reducible refine (HM3.out _ _ _ ?h1 ?h2).mono ?_); (case h1 => exact hz1_2); (case h2 => exact hz2_2); rintro e w3 ⟨hb3, v3, rfl, hz3_3⟩; have hx3 := hx2.below hb3; have hbw3 := hbw2.trans (hb3.mono hbw2.size); obtain ⟨kc_0, kc_1, kc_2, kc_3, -⟩ := four_cells (hx3).b0; obtain ⟨kc_4, kc_5, kc_6, kc_7, -⟩ := four_cells (hx3).b1; have hz1_3 := hz1_2.below hb3; have hz2_3 := hz2_2.below hb3)
      | (go_at_call 43; (with_reducible refine (HM4.out _ ?h1).mono ?_); (case h1 => exact hbw3); rintro e w4 ⟨hb4, v4, rfl, hz4_4⟩; have hx4 := hx3.below hb4; have hbw4 := hbw3.trans (hb4.mono hbw3.size); obtain ⟨kd_0, kd_1, kd_2, kd_3, -⟩ := four_cells (hx4).b0; obtain ⟨kd_4, kd_5, kd_6, kd_7, -⟩ := four_cells (hx4).b1; have hz1_4 := hz1_3.below hb4; have hz2_4 := hz2_3.below hb4; have hz3_4 := hz3_3.below hb4)
      | (go_at_call 67; (with_reducible refine (HMR.out _ _ _ ?h1 ?h2).mono ?_); (case h1 => exact hz3_4); (case h2 => exact hz4_4); rintro e w5 ⟨hb5, v5, rfl, hq⟩; obtain ⟨s5, o5, k5, c5, s6, o6, k6, c6, rfl, hp5, hp6⟩ := hq.form; have hx5 := hx4.below hb5; have hbw5 := hbw4.trans (hb5.mono hbw4.size); obtain ⟨ke_0, ke_1, ke_2, ke_3, -⟩ := four_cells (hx5).b0; obtain ⟨ke_4, ke_5, ke_6, ke_7, -⟩ := four_cells (hx5).b1; obtain ⟨r0, r1, r2, r3, f0, f1, f2, f3⟩ := four_cells hx5.b2; have hszr := hx5.l3)))
  have HXn := Kept.mk hx5
  have HP5 := Kept.mk hp5
  have HP6 := Kept.mk hp6
  have HE := Kept.mk (fun W' => q_end (L := 2 * L + 1) (w := w) HXn.out.b2 HXn.out.1 (by omega) HP5.out HP6.out W')
  go_wp2
  have hE := HE.out _ rfl
  exact bodyPost_ret (v := .agg #[.bool s5, .slice o5 k5 c5, .bool s6, .slice o6 k6 c6]) (by simp [results, Tryz.results72, go_sem, hE.2.2.1, hE.2.2.2.1, hE.2.2.2.2.1, hE.2.2.2.2.2]) rfl ⟨hE.1, _, rfl, hE.2.1⟩
set_option maxRecDepth 20000 in
set_option maxHeartbeats 8000000 in
theorem rminus_any {L : Nat} {va vb : Value} {p1 q1 p2 q2 : Int} {w : World} (ha : QV L w va p1 q1) (hb : QV L w vb p2 q2) (hne : q1 * q2 ≠ 0) (hL : L ≤ 10000000) :
    Calls Tryz.prog 63 #[va, vb] w (RetQ (2 * L + 1) w (frN (p1 * q2 - p2 * q1) (q1 * q2)) (frD (p1 * q2 - p2 * q1) (q1 * q2))) := by
  obtain ⟨s1, o1, k1, c1, s2, o2, k2, c2, rfl, hx1, hx2⟩ := ha.form
  obtain ⟨t1, a1, j1, d1, t2, a2, j2, d2, rfl, hy1, hy2⟩ := hb.form
  have HX0 : Kept (Bxs w [.cells #[.bool s1, .slice o1 k1 c1, .bool s2, .slice o2 k2 c2] 72, .cells #[.bool t1, .slice a1 j1 d1, .bool t2, .slice a2 j2 d2] 72, .cells #[.bool false, .slice none 0 0, .bool false, .slice none 0 0] 72] (((w.alloc (.cells #[.bool s1, .slice o1 k1 c1, .bool s2, .slice o2 k2 c2] 72)).alloc (.cells #[.bool t1, .slice a1 j1 d1, .bool t2, .slice a2 j2 d2] 72)).alloc (.cells #[.bool false, .slice none 0 0, .bool false, .slice none 0 0] 72))) := ⟨(((Bxs.start w).alloc (by simp) _).alloc (by simp) _).alloc (by simp) _⟩
  obtain ⟨FN, hFN⟩ : ∃ x, frN (p1 * q2 - p2 * q1) (q1 * q2) = x := ⟨_, rfl⟩
  obtain ⟨FD, hFD⟩ : ∃ x, frD (p1 * q2 - p2 * q1) (q1 * q2) = x := ⟨_, rfl⟩
  rw [hFN, hFD]
  have HFN := Kept.mk hFN
  have HFD := Kept.mk hFD
  have HX1 := Kept.mk (hx1.below HX0.out.1)
  have HX2 := Kept.mk (hx2.below HX0.out.1)
  have HY1 := Kept.mk (hy1.below HX0.out.1)
  have HY2 := Kept.mk (hy2.below HX0.out.1)
  have HNE := Kept.mk hne
  clear hx1 hx2 hy1 hy2 ha hb hFN hFD hne
  go_enter Tryz.func63, Tryz.ntmps63
  go_wp2_with fail
  generalize (((w.alloc (.cells #[.bool s1, .slice o1 k1 c1, .bool s2, .slice o2 k2 c2] 72)).alloc (.cells #[.bool t1, .slice a1 j1 d1, .bool t2, .slice a2 j2 d2] 72)).alloc (.cells #[.bool false, .slice none 0 0, .bool false, .slice none 0 0] 72)) = ws at *
  have HM1 : Kept (∀ W, Below ws.heap.size ws W → Calls Tryz.prog 43 #[.agg #[.bool s1, .slice o1 k1 c1], .agg #[.bool t2, .slice a2 j2 d2]] W (RetZ (2 * L) W (p1 * q2))) := ⟨fun W h => by rw [Nat.two_mul]; exact rmulz_any (HX1.out.below h) (HY2.out.below h) (by omega) (by omega)⟩
  have HM2 : Kept (∀ W, Below ws.heap.size ws W → Calls Tryz.prog 43 #[.agg #[.bool t1, .slice a1 j1 d1], .agg #[.bool s2, .slice o2 k2 c2]] W (RetZ (2 * L) W (p2 * q1))) := ⟨fun W h => by rw [Nat.two_mul]; exact rmulz_any (HY1.out.below h) (HX2.out.below h) (by omega) (by omega)⟩
  have HM3 : Kept (∀ W u v, ZV (2 * L) W u (p1 * q2) → ZV (2 * L) W v (p2 * q1) → Calls Tryz.prog 42 #[u, v] W (RetZ (2 * L + 1) W ((p1 * q2) - (p2 * q1)))) := ⟨fun W u v h h' => by have hc := rsubz_any h h' (by omega) (by omega); rw [Nat.max_self] at hc; exact hc⟩
  have HM4 : Kept (∀ W, Below ws.heap.size ws W → Calls Tryz.prog 43 #[.agg #[.bool s2, .slice o2 k2 c2], .agg #[.bool t2, .slice a2 j2 d2]] W (RetZ (2 * L) W (q1 * q2))) := ⟨fun W h => by rw [Nat.two_mul]; exact rmulz_any (HX2.out.below h) (HY2.out.below h) (by omega) (by omega)⟩
  have HMR : Kept (∀ W u v, ZV (2 * L + 1) W u (p1 * q2 - p2 * q1) → ZV (2 * L) W v (q1 * q2) → Calls Tryz.prog 67 #[u, v] W (RetQ (2 * L + 1) W FN FD)) := ⟨fun W u v h h' => by have hc := rratio_any (h.mono (show (2 * L + 1) ≤ 2 * L + 1 by omega)) (h'.mono (show (2 * L) ≤ 2 * L + 1 by omega)) HNE.out (by omega) (by omega); rw [Nat.max_self, HFN.out, HFD.out] at hc; exact hc⟩
  obtain ⟨i0, i1, i2, i3, -⟩ := four_cells (HX0.out).b0; obtain ⟨i4, i5, i6, i7, -⟩ := four_cells (HX0.out).b1
  have hA2 : ¬ w.heap.size = w.heap.size + 1 + 1 := by omega
  have hB2 : ¬ w.heap.size + 1 = w.heap.size + 1 + 1 := by omega
  go_region_held3 (fun w' => w'.cell? ⟨w.heap.size, 0, none⟩ = some (.bool s1) ∧ w'.cell? ⟨w.heap.size, 1, none⟩ = some (.slice o1 k1 c1) ∧ w'.cell? ⟨w.heap.size, 2, none⟩ = some (.bool s2) ∧ w'.cell? ⟨w.heap.size, 3, none⟩ = some (.slice o2 k2 c2) ∧ w'.cell? ⟨w.heap.size + 1, 0, none⟩ = some (.bool t1) ∧ w'.cell? ⟨w.heap.size + 1, 1, none⟩ = some (.slice a1 j1 d1) ∧ w'.cell? ⟨w.heap.size + 1, 2, none⟩ = some (.bool t2) ∧ w'.cell? ⟨w.heap.size + 1, 3, none⟩ = some (.slice a2 j2 d2))
    (first | (with_reducible exact ⟨ke_0, ke_1, ke_2, ke_3, ke_4, ke_5, ke_6, ke_7⟩) | (with_reducible exact ⟨kd_0, kd_1, kd_2, kd_3, kd_4, kd_5, kd_6, kd_7⟩) | (with_reducible exact ⟨kc_0, kc_1, kc_2, kc_3, kc_4, kc_5, kc_6, kc_7⟩) | (with_reducible exact ⟨kb_0, kb_1, kb_2, kb_3, kb_4, kb_5, kb_6, kb_7⟩) | (with_reducible exact ⟨ka_0, ka_1, ka_2, ka_3, ka_4, ka_5, ka_6, ka_7⟩) | (with_reducible exact ⟨i0, i1, i2, i3, i4, i5, i6, i7⟩) | (with_reducible exact ⟨(cell4 hA2).trans ke_0, (cell4 hA2).trans ke_1, (cell4 hA2).trans ke_2, (cell4 hA2).trans ke_3, (cell4 hB2).trans ke_4, (cell4 hB2).trans ke_5, (cell4 hB2).trans ke_6, (cell4 hB2).trans ke_7⟩) | go_keep)
    ((first
      | (go_at_call 43; (with_reducible refine (HM1.out _ ?h1).mono ?_); (case h1 => exact (Below.refl ws.heap.size ws).drew); rintro e w1 ⟨hb1, v1, rfl, hz1_1⟩; have hx1 := HX0.out.drew.below hb1; have hbw1 := (Below.refl ws.heap.size ws).drew.trans (hb1.mono (Below.refl ws.heap.size ws).drew.size); obtain ⟨ka_0, ka_1, ka_2, ka_3, -⟩ := four_cells (hx1).b0; obtain ⟨ka_4, ka_5, ka_6, ka_7, -⟩ := four_cells (hx1).b1)
      | (go_at_call 43; (with_reducible refine (HM2.out _ ?h1).mono ?_); (case h1 => exact hbw1); rintro e w2 ⟨hb2, v2, rfl, hz2_2⟩; have hx2 := hx1.below hb2; have hbw2 := hbw1.trans (hb2.mono hbw1.size); obtain ⟨kb_0, kb_1, kb_2, kb_3, -⟩ := four_cells (hx2).b0; obtain ⟨kb_4, kb_5, kb_6, kb_7, -⟩ := four_cells (hx2).b1; have hz1_2 := hz1_1.below hb2)
      | (go_at_call 42; (with_reducible refine (HM3.out _ _ _ ?h1 ?h2).mono ?_); (case h1 => exact hz1_2); (case h2 => exact hz2_2); rintro e w3 ⟨hb3, v3, rfl, hz3_3⟩; have hx3 := hx2.below hb3; have hbw3 := hbw2.trans (hb3.mono hbw2.size); obtain ⟨kc_0, kc_1, kc_2, kc_3, -⟩ := four_cells (hx3).b0; obtain ⟨kc_4, kc_5, kc_6, kc_7, -⟩ := four_cells (hx3).b1; have hz1_3 := hz1_2.below hb3; have hz2_3 := hz2_2.below hb3)
      | (go_at_call 43; (with_reducible refine (HM4.out _ ?h1).mono ?_); (case h1 => exact hbw3); rintro e w4 ⟨hb4, v4, rfl, hz4_4⟩; have hx4 := hx3.below hb4; have hbw4 := hbw3.trans (hb4.mono hbw3.size); obtain ⟨kd_0, kd_1, kd_2, kd_3, -⟩ := four_cells (hx4).b0; obtain ⟨kd_4, kd_5, kd_6, kd_7, -⟩ := four_cells (hx4).b1; have hz1_4 := hz1_3.below hb4; have hz2_4 := hz2_3.below hb4; have hz3_4 := hz3_3.below hb4)
      | (go_at_call 67; (with_reducible refine (HMR.out _ _ _ ?h1 ?h2).mono ?_); (case h1 => exact hz3_4); (case h2 => exact hz4_4); rintro e w5 ⟨hb5, v5, rfl, hq⟩; obtain ⟨s5, o5, k5, c5, s6, o6, k6, c6, rfl, hp5, hp6⟩ := hq.form; have hx5 := hx4.below hb5; have hbw5 := hbw4.trans (hb5.mono hbw4.size); obtain ⟨ke_0, ke_1, ke_2, ke_3, -⟩ := four_cells (hx5).b0; obtain ⟨ke_4, ke_5, ke_6, ke_7, -⟩ := four_cells (hx5).b1; obtain ⟨r0, r1, r2, r3, f0, f1, f2, f3⟩ := four_cells hx5.b2; have hszr := hx5.l3)))
  have HXn := Kept.mk hx5
  have HP5 := Kept.mk hp5
  have HP6 := Kept.mk hp6
  have HE := Kept.mk (fun W' => q_end (L := 2 * L + 1) (w := w) HXn.out.b2 HXn.out.1 (by omega) HP5.out HP6.out W')
  go_wp2
  have hE := HE.out _ rfl
  exact bodyPost_ret (v := .agg #[.bool s5, .slice o5 k5 c5, .bool s6, .slice o6 k6 c6]) (by simp [results, Tryz.results63, go_sem, hE.2.2.1, hE.2.2.2.1, hE.2.2.2.2.1, hE.2.2.2.2.2]) rfl ⟨hE.1, _, rfl, hE.2.1⟩
set_option maxRecDepth 20000 in
set_option maxHeartbeats 8000000 in
theorem rover_any {L : Nat} {va vb : Value} {p1 q1 p2 q2 : Int} {w : World} (ha : QV L w va p1 q1) (hb : QV L w vb p2 q2) (hne : q1 * p2 ≠ 0) (hL : L ≤ 10000000) :
    Calls Tryz.prog 77 #[va, vb] w (RetQ (2 * L + 1) w (frN (p1 * q2) (q1 * p2)) (frD (p1 * q2) (q1 * p2))) := by
  obtain ⟨s1, o1, k1, c1, s2, o2, k2, c2, rfl, hx1, hx2⟩ := ha.form
  obtain ⟨t1, a1, j1, d1, t2, a2, j2, d2, rfl, hy1, hy2⟩ := hb.form
  have HX0 : Kept (Bxs w [.cells #[.bool s1, .slice o1 k1 c1, .bool s2, .slice o2 k2 c2] 72, .cells #[.bool t1, .slice a1 j1 d1, .bool t2, .slice a2 j2 d2] 72, .cells #[.bool false, .slice none 0 0, .bool false, .slice none 0 0] 72] (((w.alloc (.cells #[.bool s1, .slice o1 k1 c1, .bool s2, .slice o2 k2 c2] 72)).alloc (.cells #[.bool t1, .slice a1 j1 d1, .bool t2, .slice a2 j2 d2] 72)).alloc (.cells #[.bool false, .slice none 0 0, .bool false, .slice none 0 0] 72))) := ⟨(((Bxs.start w).alloc (by simp) _).alloc (by simp) _).alloc (by simp) _⟩
  obtain ⟨FN, hFN⟩ : ∃ x, frN (p1 * q2) (q1 * p2) = x := ⟨_, rfl⟩
  obtain ⟨FD, hFD⟩ : ∃ x, frD (p1 * q2) (q1 * p2) = x := ⟨_, rfl⟩
  rw [hFN, hFD]
  have HFN := Kept.mk hFN
  have HFD := Kept.mk hFD
  have HX1 := Kept.mk (hx1.below HX0.out.1)
  have HX2 := Kept.mk (hx2.below HX0.out.1)
  have HY1 := Kept.mk (hy1.below HX0.out.1)
  have HY2 := Kept.mk (hy2.below HX0.out.1)
  have HNE := Kept.mk hne
  clear hx1 hx2 hy1 hy2 ha hb hFN hFD hne
  go_enter Tryz.func77, Tryz.ntmps77
  go_wp2_with fail
  generalize (((w.alloc (.cells #[.bool s1, .slice o1 k1 c1, .bool s2, .slice o2 k2 c2] 72)).alloc (.cells #[.bool t1, .slice a1 j1 d1, .bool t2, .slice a2 j2 d2] 72)).alloc (.cells #[.bool false, .slice none 0 0, .bool false, .slice none 0 0] 72)) = ws at *
  have HM1 : Kept (∀ W, Below ws.heap.size ws W → Calls Tryz.prog 43 #[.agg #[.bool s1, .slice o1 k1 c1], .agg #[.bool t2, .slice a2 j2 d2]] W (RetZ (2 * L) W (p1 * q2))) := ⟨fun W h => by rw [Nat.two_mul]; exact rmulz_any (HX1.out.below h) (HY2.out.below h) (by omega) (by omega)⟩
  have HM2 : Kept (∀ W, Below ws.heap.size ws W → Calls Tryz.prog 43 #[.agg #[.bool s2, .slice o2 k2 c2], .agg #[.bool t1, .slice a1 j1 d1]] W (RetZ (2 * L) W (q1 * p2))) := ⟨fun W h => by rw [Nat.two_mul]; exact rmulz_any (HX2.out.below h) (HY1.out.below h) (by omega) (by omega)⟩
  have HMR : Kept (∀ W u v, ZV (2 * L) W u (p1 * q2) → ZV (2 * L) W v (q1 * p2) → Calls Tryz.prog 67 #[u, v] W (RetQ (2 * L + 1) W FN FD)) := ⟨fun W u v h h' => by have hc := rratio_any (h.mono (show (2 * L) ≤ 2 * L + 1 by omega)) (h'.mono (show (2 * L) ≤ 2 * L + 1 by omega)) HNE.out (by omega) (by omega); rw [Nat.max_self, HFN.out, HFD.out] at hc; exact hc⟩
  obtain ⟨i0, i1, i2, i3, -⟩ := four_cells (HX0.out).b0; obtain ⟨i4, i5, i6, i7, -⟩ := four_cells (HX0.out).b1
  have hA2 : ¬ w.heap.size = w.heap.size + 1 + 1 := by omega
  have hB2 : ¬ w.heap.size + 1 = w.heap.size + 1 + 1 := by omega
  go_region_held3 (fun w' => w'.cell? ⟨w.heap.size, 0, none⟩ = some (.bool s1) ∧ w'.cell? ⟨w.heap.size, 1, none⟩ = some (.slice o1 k1 c1) ∧ w'.cell? ⟨w.heap.size, 2, none⟩ = some (.bool s2) ∧ w'.cell? ⟨w.heap.size, 3, none⟩ = some (.slice o2 k2 c2) ∧ w'.cell? ⟨w.heap.size + 1, 0, none⟩ = some (.bool t1) ∧ w'.cell? ⟨w.heap.size + 1, 1, none⟩ = some (.slice a1 j1 d1) ∧ w'.cell? ⟨w.heap.size + 1, 2, none⟩ = some (.bool t2) ∧ w'.cell? ⟨w.heap.size + 1, 3, none⟩ = some (.slice a2 j2 d2))
    (first | (with_reducible exact ⟨kc_0, kc_1, kc_2, kc_3, kc_4, kc_5, kc_6, kc_7⟩) | (with_reducible exact ⟨kb_0, kb_1, kb_2, kb_3, kb_4, kb_5, kb_6, kb_7⟩) | (with_reducible exact ⟨ka_0, ka_1, ka_2, ka_3, ka_4, ka_5, ka_6, ka_7⟩) | (with_reducible exact ⟨i0, i1, i2, i3, i4, i5, i6, i7⟩) | (with_reducible exact ⟨(cell4 hA2).trans kc_0, (cell4 hA2).trans kc_1, (cell4 hA2).trans kc_2, (cell4 hA2).trans kc_3, (cell4 hB2).trans kc_4, (cell4 hB2).trans kc_5, (cell4 hB2).trans kc_6, (cell4 hB2).trans kc_7⟩) | go_keep)
    ((first
      | (go_at_call 43; (with_reducible refine (HM1.out _ ?h1).mono ?_); (case h1 => exact (Below.refl ws.heap.size ws).drew); rintro e w1 ⟨hb1, v1, rfl, hz1_1⟩; have hx1 := HX0.out.drew.below hb1; have hbw1 := (Below.refl ws.heap.size ws).drew.trans (hb1.mono (Below.refl ws.heap.size ws).drew.size); obtain ⟨ka_0, ka_1, ka_2, ka_3, -⟩ := four_cells (hx1).b0; obtain ⟨ka_4, ka_5, ka_6, ka_7, -⟩ := four_cells (hx1).b1)
      | (go_at_call 43; (with_reducible refine (HM2.out _ ?h1).mono ?_); (case h1 => exact hbw1); rintro e w2 ⟨hb2, v2, rfl, hz2_2⟩; have hx2 := hx1.below hb2; have hbw2 := hbw1.trans (hb2.mono hbw1.size); obtain ⟨kb_0, kb_1, kb_2, kb_3, -⟩ := four_cells (hx2).b0; obtain ⟨kb_4, kb_5, kb_6, kb_7, -⟩ := four_cells (hx2).b1; have hz1_2 := hz1_1.below hb2)
      | (go_at_call 67; (with_reducible refine (HMR.out _ _ _ ?h1 ?h2).mono ?_); (case h1 => exact hz1_2); (case h2 => exact hz2_2); rintro e w3 ⟨hb3, v3, rfl, hq⟩; obtain ⟨s5, o5, k5, c5, s6, o6, k6, c6, rfl, hp5, hp6⟩ := hq.form; have hx3 := hx2.below hb3; have hbw3 := hbw2.trans (hb3.mono hbw2.size); obtain ⟨kc_0, kc_1, kc_2, kc_3, -⟩ := four_cells (hx3).b0; obtain ⟨kc_4, kc_5, kc_6, kc_7, -⟩ := four_cells (hx3).b1; obtain ⟨r0, r1, r2, r3, f0, f1, f2, f3⟩ := four_cells hx3.b2; have hszr := hx3.l3)))
  have HXn := Kept.mk hx3
  have HP5 := Kept.mk hp5
  have HP6 := Kept.mk hp6
  have HE := Kept.mk (fun W' => q_end (L := 2 * L + 1) (w := w) HXn.out.b2 HXn.out.1 (by omega) HP5.out HP6.out W')
  go_wp2
  have hE := HE.out _ rfl
  exact bodyPost_ret (v := .agg #[.bool s5, .slice o5 k5 c5, .bool s6, .slice o6 k6 c6]) (by simp [results, Tryz.results77, go_sem, hE.2.2.1, hE.2.2.2.1, hE.2.2.2.2.1, hE.2.2.2.2.2]) rfl ⟨hE.1, _, rfl, hE.2.1⟩
end Go.Proofs.YtblbheilddafbaaGreatDoor

set_option linter.unusedVariables false
set_option linter.unusedSimpArgs false
namespace Go.Proofs.YtblbheilddafbaaGreatDoor
open Go Go.RowKit
theorem decN_lenR {n L : Nat} (h : (n : Int) < BN ^ L) : (Dg.decN n).length ≤ 9 * L + 1 := by
  have hd := lenIs_dec n
  by_cases h0 : n = 0
  · have := hd.zero (by omega); omega
  · apply Classical.byContradiction
    intro hc
    have h1 := hd.lo (by omega)
    have h2 := Dg.pow_mono (show (0 : Int) < 10 by omega) (show 9 * L ≤ (Dg.decN n).length - 1 by omega)
    have h3 : (BN : Int) ^ L = 10 ^ (9 * L) := by rw [Int.pow_mul]; rfl
    omega
theorem decZ_lenR {z : Int} {L : Nat} (h : (z.natAbs : Int) < BN ^ L) : (Dg.decZ z).length ≤ 9 * L + 2 := by
  have := decN_lenR (n := z.natAbs) (L := L) h
  unfold Dg.decZ
  split
  · simp; omega
  · omega
set_option maxRecDepth 20000 in
set_option maxHeartbeats 1000000 in
theorem rsgn_any {L : Nat} {v : Value} {p q : Int} {w : World} (h : QV L w v p q) :
    Calls Tryz.prog 60 #[v] w (RetV w (.int .i64 (Dg.sg p 0))) := by
  obtain ⟨s1, o1, k1, c1, s2, o2, k2, c2, rfl, hx1, hx2⟩ := h.form
  have HX0 : Kept (Bxs w [.cells #[.bool s1, .slice o1 k1 c1, .bool s2, .slice o2 k2 c2] 72] (w.alloc (.cells #[.bool s1, .slice o1 k1 c1, .bool s2, .slice o2 k2 c2] 72))) := ⟨(Bxs.start w).alloc (by simp) _⟩
  have HP := Kept.mk (hx1.below HX0.out.1)
  obtain ⟨σ, hσ⟩ : ∃ σ, Dg.sg p 0 = σ := ⟨_, rfl⟩
  have hc := rsignz_any HP.out
  rw [hσ] at hc ⊢
  have HC := Kept.mk hc
  clear hx1 hx2 hσ hc h
  obtain ⟨i0, i1, i2, i3, -⟩ := four_cells HX0.out.b0
  go_enter Tryz.func60, Tryz.ntmps60
  go_wp2_with fail
  refine HC.out.mono ?_
  rintro e w1 ⟨hb1, rfl⟩
  have HX1 := Kept.mk (HX0.out.below hb1)
  clear hb1
  go_wp2
  go_ret
  exact ⟨HX1.out.1, rfl⟩
set_option maxRecDepth 20000 in
set_option maxHeartbeats 2000000 in
theorem rfrac_any (a b : Int) (w : World) (a0 : -9223372036854775808 ≤ a) (a1 : a ≤ 9223372036854775807) (b0 : -9223372036854775808 ≤ b) (b1 : b ≤ 9223372036854775807) (hb : b ≠ 0) :
    Calls Tryz.prog 64 #[.int .i64 a, .int .i64 b] w (RetQ 64 w (frN a b) (frD a b)) := by
  have HX0 : Kept (Bxs w [.cells #[.bool false, .slice none 0 0, .bool false, .slice none 0 0] 72] (w.alloc (.cells #[.bool false, .slice none 0 0, .bool false, .slice none 0 0] 72))) := ⟨(Bxs.start w).alloc (by simp) _⟩
  have HB := Kept.mk hb
  obtain ⟨FN, hFN⟩ : ∃ x, frN a b = x := ⟨_, rfl⟩
  obtain ⟨FD, hFD⟩ : ∃ x, frD a b = x := ⟨_, rfl⟩
  rw [hFN, hFD]
  have HFN := Kept.mk hFN
  have HFD := Kept.mk hFD
  clear hb hFN hFD
  go_enter Tryz.func64, Tryz.ntmps64
  go_wp2_with fail
  refine (rof_any a _ a0 a1).mono ?_
  rintro e w1 ⟨hb1, v1, rfl, hI1⟩
  have HX1 := Kept.mk (HX0.out.below hb1)
  have HI1 := Kept.mk hI1
  clear hb1 hI1
  go_wp2_with fail
  refine (rof_any b _ b0 b1).mono ?_
  rintro e w2 ⟨hb2, v2, rfl, hI2⟩
  have HX2 := Kept.mk (HX1.out.below hb2)
  have HR := Kept.mk (rratio_any (HI1.out.below hb2) hI2 HB.out (by decide) (by decide))
  clear hb2 hI2
  go_wp2_with fail
  refine HR.out.mono ?_
  rintro e w3 ⟨hb3, v3, rfl, hq⟩
  rw [HFN.out, HFD.out] at hq
  obtain ⟨s5, o5, k5, c5, s6, o6, k6, c6, rfl, hp5, hp6⟩ := hq.form
  have HX3 := Kept.mk (HX2.out.below hb3)
  have HP5 := Kept.mk hp5
  have HP6 := Kept.mk hp6
  clear hb3 hq hp5 hp6
  obtain ⟨r0, r1, r2, r3, f0, f1, f2, f3⟩ := four_cells HX3.out.b0
  have hszr := HX3.out.l1
  have HE := Kept.mk (fun W' => q_end (L := 64) (w := w) HX3.out.b0 HX3.out.1 (Nat.le_refl _) HP5.out HP6.out W')
  go_wp2
  have hE := HE.out _ rfl
  exact bodyPost_ret (v := .agg #[.bool s5, .slice o5 k5 c5, .bool s6, .slice o6 k6 c6]) (by simp [results, Tryz.results64, go_sem, hE.2.2.1, hE.2.2.2.1, hE.2.2.2.2.1, hE.2.2.2.2.2]) rfl ⟨hE.1, _, rfl, hE.2.1⟩
set_option maxRecDepth 20000 in
set_option maxHeartbeats 4000000 in
theorem rform_one {L : Nat} {v : Value} {p q : Int} {w : World} (h : QV L w v p q) (hq1 : q = 1) (hL : L ≤ 1000000) :
    Calls Tryz.prog 119 #[v] w (StrRet w (decR p q)) := by
  obtain ⟨s1, o1, k1, c1, s2, o2, k2, c2, rfl, hx1, hx2⟩ := h.form
  have HX0 : Kept (Bxs w [.cells #[.bool s1, .slice o1 k1 c1, .bool s2, .slice o2 k2 c2] 72] (w.alloc (.cells #[.bool s1, .slice o1 k1 c1, .bool s2, .slice o2 k2 c2] 72))) := ⟨(Bxs.start w).alloc (by simp) _⟩
  have HP := Kept.mk (hx1.below HX0.out.1)
  have HQ := Kept.mk (hx2.below HX0.out.1)
  have hl1 := decZ_lenR hx1.parts.2.lt.2
  have hl2 := decZ_lenR hx2.parts.2.lt.2
  obtain ⟨σ, hσ⟩ : ∃ σ, Dg.sg q 1 = σ := ⟨_, rfl⟩
  have hs0 : σ = 0 := by rw [← hσ, hq1]; exact Dg.sg_eq _
  subst hs0
  have HR : Kept (decR p q = Dg.decZ p) := ⟨by rw [hq1]; exact decR_one p⟩
  obtain ⟨l1, hll1⟩ : ∃ l, Dg.decZ p = l := ⟨_, rfl⟩
  rw [hll1] at HR
  have HSP : Kept (∀ W, Below (w.alloc (.cells #[.bool s1, .slice o1 k1 c1, .bool s2, .slice o2 k2 c2] 72)).heap.size (w.alloc (.cells #[.bool s1, .slice o1 k1 c1, .bool s2, .slice o2 k2 c2] 72)) W → Calls Tryz.prog 31 #[.agg #[.bool s1, .slice o1 k1 c1]] W (RetV W (.string ⟨l1.toArray⟩))) := ⟨fun W h => (rstr_any (HP.out.below h) (by omega)).mono fun e w' ⟨h1, h2⟩ => ⟨h1, by rw [h2, hll1]; rfl⟩⟩
  have HCM : Kept (∀ W u, Below (w.alloc (.cells #[.bool s1, .slice o1 k1 c1, .bool s2, .slice o2 k2 c2] 72)).heap.size (w.alloc (.cells #[.bool s1, .slice o1 k1 c1, .bool s2, .slice o2 k2 c2] 72)) W → ZV 64 W u 1 → Calls Tryz.prog 35 #[.agg #[.bool s2, .slice o2 k2 c2], u] W (RetV W (.int .i64 0))) := ⟨fun W u h h' => by have hc := rcmpz_any (HQ.out.below h) h' (by omega) (by decide); rw [hσ] at hc; exact hc⟩
  clear hx1 hx2 hσ h hll1 hq1
  obtain ⟨i0, i1, i2, i3, -⟩ := four_cells HX0.out.b0
  go_enter Tryz.func119, Tryz.ntmps119
  go_wp2_with fail
  go_region_held3 (fun w' => w'.cell? ⟨w.heap.size, 0, none⟩ = some (.bool s1) ∧ w'.cell? ⟨w.heap.size, 1, none⟩ = some (.slice o1 k1 c1) ∧ w'.cell? ⟨w.heap.size, 2, none⟩ = some (.bool s2) ∧ w'.cell? ⟨w.heap.size, 3, none⟩ = some (.slice o2 k2 c2))
    (first | (with_reducible exact ⟨b0, b1, b2, b3⟩) | (with_reducible exact ⟨a0, a1, a2, a3⟩) | (with_reducible exact ⟨i0, i1, i2, i3⟩) | go_keep)
    ((first
      | (go_at_call 32; refine (rof_any 1 _ (by decide) (by decide)).mono ?_; rintro e w1 ⟨hb1, v1, rfl, hI1⟩; have hx1 := HX0.out.drew.below hb1; have hw1 := (Below.refl (w.alloc (.cells #[.bool s1, .slice o1 k1 c1, .bool s2, .slice o2 k2 c2] 72)).heap.size (w.alloc (.cells #[.bool s1, .slice o1 k1 c1, .bool s2, .slice o2 k2 c2] 72))).drew.trans hb1; obtain ⟨a0, a1, a2, a3, -⟩ := four_cells (hx1).b0)
      | (go_at_call 35; (with_reducible refine (HCM.out _ _ ?h1 ?h2).mono ?_); (case h1 => exact hw1); (case h2 => exact hI1); rintro e w2 ⟨hb2, rfl⟩; have hx2 := hx1.below hb2; have hw2 := hw1.trans (hb2.mono hw1.size); obtain ⟨b0, b1, b2, b3, -⟩ := four_cells (hx2).b0)))
  have HX2 := Kept.mk hx2
  have HW2 := Kept.mk hw2
  clear hb1 hI1 hb2 hx1 hw1 hx2 hw2
  go_wp2_with fail
  refine (HSP.out _ HW2.out).mono ?_
  rintro e w3 ⟨hb3, rfl⟩
  have HX3 := Kept.mk (HX2.out.below hb3)
  clear hb3
  go_wp2
  go_ret
  exact ⟨HX3.out.1, by rw [HR.out]; rfl⟩
set_option maxRecDepth 20000 in
set_option maxHeartbeats 4000000 in
theorem rform_two {L : Nat} {v : Value} {p q : Int} {w : World} (h : QV L w v p q) (hq1 : q ≠ 1) (hq : 0 < q) (hL : L ≤ 1000000) :
    Calls Tryz.prog 119 #[v] w (StrRet w (decR p q)) := by
  obtain ⟨s1, o1, k1, c1, s2, o2, k2, c2, rfl, hx1, hx2⟩ := h.form
  have HX0 : Kept (Bxs w [.cells #[.bool s1, .slice o1 k1 c1, .bool s2, .slice o2 k2 c2] 72] (w.alloc (.cells #[.bool s1, .slice o1 k1 c1, .bool s2, .slice o2 k2 c2] 72))) := ⟨(Bxs.start w).alloc (by simp) _⟩
  have HP := Kept.mk (hx1.below HX0.out.1)
  have HQ := Kept.mk (hx2.below HX0.out.1)
  have hl1 := decZ_lenR hx1.parts.2.lt.2
  have hl2 := decZ_lenR hx2.parts.2.lt.2
  obtain ⟨σ, hσ⟩ : ∃ σ, Dg.sg q 1 = σ := ⟨_, rfl⟩
  have hs0 : (σ == 0) = false := by
    rcases Int.lt_trichotomy q 1 with h' | h' | h'
    · omega
    · exact absurd h' hq1
    · rw [← hσ, Dg.sg_gt h']; rfl
  have HR : Kept (decR p q = Dg.decZ p ++ 47 :: Dg.decZ q) := ⟨by rw [decR_slash hq1]; congr 2; unfold Dg.decZ; rw [if_neg (by omega)]; congr 1; omega⟩
  obtain ⟨l1, hll1⟩ : ∃ l, Dg.decZ p = l := ⟨_, rfl⟩
  obtain ⟨l2, hll2⟩ : ∃ l, Dg.decZ q = l := ⟨_, rfl⟩
  rw [hll1] at HR hl1
  rw [hll2] at HR hl2
  have hadd1 := fun w : World => run_add w l1 [47] (by simp; omega)
  have hadd2 := fun w : World => run_add w (l1 ++ [47]) l2 (by simp; omega)
  obtain ⟨s12, hs12⟩ : ∃ s : ByteArray, s = ⟨(l1 ++ [47]).toArray⟩ := ⟨_, rfl⟩
  obtain ⟨s13, hs13⟩ : ∃ s : ByteArray, s = ⟨(l1 ++ [47] ++ l2).toArray⟩ := ⟨_, rfl⟩
  obtain ⟨s1', hs1'⟩ : ∃ s : ByteArray, s = ⟨l1.toArray⟩ := ⟨_, rfl⟩
  obtain ⟨s2', hs2'⟩ : ∃ s : ByteArray, s = ⟨l2.toArray⟩ := ⟨_, rfl⟩
  rw [← hs1', ← hs12] at hadd1
  rw [← hs12, ← hs13, ← hs2'] at hadd2
  have HS13 := Kept.mk hs13
  have HSQ : Kept (∀ W, Below (w.alloc (.cells #[.bool s1, .slice o1 k1 c1, .bool s2, .slice o2 k2 c2] 72)).heap.size (w.alloc (.cells #[.bool s1, .slice o1 k1 c1, .bool s2, .slice o2 k2 c2] 72)) W → Calls Tryz.prog 31 #[.agg #[.bool s2, .slice o2 k2 c2]] W (RetV W (.string s2'))) := ⟨fun W h => (rstr_any (HQ.out.below h) (by omega)).mono fun e w' ⟨h1, h2⟩ => ⟨h1, by rw [h2, hll2, hs2']; rfl⟩⟩
  have HSP : Kept (∀ W, Below (w.alloc (.cells #[.bool s1, .slice o1 k1 c1, .bool s2, .slice o2 k2 c2] 72)).heap.size (w.alloc (.cells #[.bool s1, .slice o1 k1 c1, .bool s2, .slice o2 k2 c2] 72)) W → Calls Tryz.prog 31 #[.agg #[.bool s1, .slice o1 k1 c1]] W (RetV W (.string s1'))) := ⟨fun W h => (rstr_any (HP.out.below h) (by omega)).mono fun e w' ⟨h1, h2⟩ => ⟨h1, by rw [h2, hll1, hs1']; rfl⟩⟩
  have HCM : Kept (∀ W u, Below (w.alloc (.cells #[.bool s1, .slice o1 k1 c1, .bool s2, .slice o2 k2 c2] 72)).heap.size (w.alloc (.cells #[.bool s1, .slice o1 k1 c1, .bool s2, .slice o2 k2 c2] 72)) W → ZV 64 W u 1 → Calls Tryz.prog 35 #[.agg #[.bool s2, .slice o2 k2 c2], u] W (RetV W (.int .i64 σ))) := ⟨fun W u h h' => by have hc := rcmpz_any (HQ.out.below h) h' (by omega) (by decide); rw [hσ] at hc; exact hc⟩
  clear hx1 hx2 hσ h hll1 hll2 hs12 hs13 hs1' hs2' hq1
  obtain ⟨i0, i1, i2, i3, -⟩ := four_cells HX0.out.b0
  go_enter Tryz.func119, Tryz.ntmps119
  go_wp2_with fail
  go_region_held3 (fun w' => w'.cell? ⟨w.heap.size, 0, none⟩ = some (.bool s1) ∧ w'.cell? ⟨w.heap.size, 1, none⟩ = some (.slice o1 k1 c1) ∧ w'.cell? ⟨w.heap.size, 2, none⟩ = some (.bool s2) ∧ w'.cell? ⟨w.heap.size, 3, none⟩ = some (.slice o2 k2 c2))
    (first | (with_reducible exact ⟨b0, b1, b2, b3⟩) | (with_reducible exact ⟨a0, a1, a2, a3⟩) | (with_reducible exact ⟨i0, i1, i2, i3⟩) | go_keep)
    ((first
      | (go_at_call 32; refine (rof_any 1 _ (by decide) (by decide)).mono ?_; rintro e w1 ⟨hb1, v1, rfl, hI1⟩; have hx1 := HX0.out.drew.below hb1; have hw1 := (Below.refl (w.alloc (.cells #[.bool s1, .slice o1 k1 c1, .bool s2, .slice o2 k2 c2] 72)).heap.size (w.alloc (.cells #[.bool s1, .slice o1 k1 c1, .bool s2, .slice o2 k2 c2] 72))).drew.trans hb1; obtain ⟨a0, a1, a2, a3, -⟩ := four_cells (hx1).b0)
      | (go_at_call 35; (with_reducible refine (HCM.out _ _ ?h1 ?h2).mono ?_); (case h1 => exact hw1); (case h2 => exact hI1); rintro e w2 ⟨hb2, rfl⟩; have hx2 := hx1.below hb2; have hw2 := hw1.trans (hb2.mono hw1.size); obtain ⟨b0, b1, b2, b3, -⟩ := four_cells (hx2).b0)))
  have HX2 := Kept.mk hx2
  have HW2 := Kept.mk hw2
  clear hb1 hI1 hb2 hx1 hw1 hx2 hw2
  go_wp2_with fail
  go_region_held3 (fun w' => w'.cell? ⟨w.heap.size, 0, none⟩ = some (.bool s1) ∧ w'.cell? ⟨w.heap.size, 1, none⟩ = some (.slice o1 k1 c1) ∧ w'.cell? ⟨w.heap.size, 2, none⟩ = some (.bool s2) ∧ w'.cell? ⟨w.heap.size, 3, none⟩ = some (.slice o2 k2 c2))
    (first | (with_reducible exact ⟨d0, d1, d2, d3⟩) | (with_reducible exact ⟨c0, c1, c2, c3⟩) | (with_reducible exact ⟨b0, b1, b2, b3⟩) | go_keep)
    ((first
      | (go_at_call 31; (with_reducible refine (HSP.out _ ?h1).mono ?_); (case h1 => exact HW2.out.drew); rintro e w3 ⟨hb3, rfl⟩; have hx3 := HX2.out.drew.below hb3; have hw3 := HW2.out.drew.trans (hb3.mono HW2.out.size); obtain ⟨c0, c1, c2, c3, -⟩ := four_cells (hx3).b0)
      | (go_at_call 31; (with_reducible refine (HSQ.out _ ?h1).mono ?_); (case h1 => exact hw3); rintro e w4 ⟨hb4, rfl⟩; have hx4 := hx3.below hb4; obtain ⟨d0, d1, d2, d3, -⟩ := four_cells (hx4).b0)))
  have HX4 := Kept.mk hx4
  clear hx3 hx4 hw3 hb3 hb4
  go_wp2
  go_ret
  exact ⟨HX4.out.1, by rw [HR.out]; show Ending.returned (.string s13) = _; rw [HS13.out, List.append_assoc]; rfl⟩
theorem rform_any {L : Nat} {v : Value} {p q : Int} {w : World} (h : QV L w v p q) (hq : 0 < q) (hL : L ≤ 1000000) :
    Calls Tryz.prog 119 #[v] w (StrRet w (decR p q)) := by
  by_cases h1 : q = 1
  · exact rform_one h h1 hL
  · exact rform_two h h1 hq hL
end Go.Proofs.YtblbheilddafbaaGreatDoor

set_option linter.unusedVariables false
set_option linter.unusedSimpArgs false
namespace Go.Proofs.YtblbheilddafbaaGreatDoor
open Go Go.RowKit
set_option maxRecDepth 20000 in
set_option maxHeartbeats 4000000 in
theorem requal_any {La Lb : Nat} {va vb : Value} {p q : Int} {w : World} (ha : RatV La w va p q) (hb : QV Lb w vb p q) (hq : 0 < q) (h1 : La ≤ 536870912) (h2 : Lb ≤ 1000000) :
    Calls Tryz.prog 61 #[va, vb] w (RetV w (.bool true)) := by
  have HA := Kept.mk ha
  have HB := Kept.mk hb
  obtain ⟨sa, ao, ka, ca, uo, ku, cu, rfl, ra1, ra2, ra3, ra4⟩ := ha.form
  obtain ⟨s1, o1, k1, c1, s2, o2, k2, c2, rfl, hx1, hx2⟩ := hb.form
  have HX0 : Kept (Bxs w [.cells #[.bool sa, .slice ao ka ca, .slice uo ku cu] 76, .cells #[.bool s1, .slice o1 k1 c1, .bool s2, .slice o2 k2 c2] 72] ((w.alloc (.cells #[.bool sa, .slice ao ka ca, .slice uo ku cu] 76)).alloc (.cells #[.bool s1, .slice o1 k1 c1, .bool s2, .slice o2 k2 c2] 72))) := ⟨((Bxs.start w).alloc (by simp) _).alloc (by simp) _⟩
  obtain ⟨l, hl⟩ : ∃ l, l = decR p q := ⟨_, rfl⟩
  have HS1 : Kept (∀ W, Below w.heap.size w W → Calls Tryz.prog 56 #[.agg #[.bool sa, .slice ao ka ca, .slice uo ku cu]] W (RetV W (.string ⟨l.toArray⟩))) := ⟨fun W hW => by rw [hl]; exact rstring_any (HA.out.below hW) hq h1⟩
  have HS2 : Kept (∀ W, Below w.heap.size w W → Calls Tryz.prog 119 #[.agg #[.bool s1, .slice o1 k1 c1, .bool s2, .slice o2 k2 c2]] W (RetV W (.string ⟨l.toArray⟩))) := ⟨fun W hW => by rw [hl]; exact rform_any (HB.out.below hW) hq h2⟩
  have t1 : ((⟨l.toArray⟩ : ByteArray).toList == (⟨l.toArray⟩ : ByteArray).toList) = true := by simp
  clear hl ra1 ra2 ra3 ra4 hx1 hx2 ha hb HA HB
  obtain ⟨i0, i1, i2, -⟩ := three_cells (HX0.out).b0; obtain ⟨i3, i4, i5, i6, -⟩ := four_cells (HX0.out).b1
  go_enter Tryz.func61, Tryz.ntmps61
  go_wp2_with fail
  go_region_held3 (fun w' => w'.cell? ⟨w.heap.size, 0, none⟩ = some (.bool sa) ∧ w'.cell? ⟨w.heap.size, 1, none⟩ = some (.slice ao ka ca) ∧ w'.cell? ⟨w.heap.size, 2, none⟩ = some (.slice uo ku cu) ∧ w'.cell? ⟨w.heap.size + 1, 0, none⟩ = some (.bool s1) ∧ w'.cell? ⟨w.heap.size + 1, 1, none⟩ = some (.slice o1 k1 c1) ∧ w'.cell? ⟨w.heap.size + 1, 2, none⟩ = some (.bool s2) ∧ w'.cell? ⟨w.heap.size + 1, 3, none⟩ = some (.slice o2 k2 c2))
    (first | (with_reducible exact ⟨b0, b1, b2, b3, b4, b5, b6⟩) | (with_reducible exact ⟨a0, a1, a2, a3, a4, a5, a6⟩) | (with_reducible exact ⟨i0, i1, i2, i3, i4, i5, i6⟩) | go_keep)
    ((first
      | (go_at_call 56; (with_reducible refine (HS1.out _ ?hx1).mono ?_); (case hx1 => exact HX0.out.drew.1); rintro e w1 ⟨hb1, rfl⟩; have hx1 := HX0.out.drew.below hb1; obtain ⟨a0, a1, a2, -⟩ := three_cells (hx1).b0; obtain ⟨a3, a4, a5, a6, -⟩ := four_cells (hx1).b1)
      | (go_at_call 119; (with_reducible refine (HS2.out _ ?hx2).mono ?_); (case hx2 => exact hx1.1); rintro e w2 ⟨hb2, rfl⟩; have hx2 := hx1.below hb2; obtain ⟨b0, b1, b2, -⟩ := three_cells (hx2).b0; obtain ⟨b3, b4, b5, b6, -⟩ := four_cells (hx2).b1)))
  have HX2 := Kept.mk hx2
  clear hb1 hb2 hx1 hx2
  go_wp2
  go_ret
  exact ⟨HX2.out.1, rfl⟩
theorem frD_pos {a b : Int} (hb : b ≠ 0) : 0 < frD a b := by
  obtain ⟨G, zn, yn, hG, _, _, _, h0, _, hd⟩ := fr_parts (z := a) hb
  rw [hd]
  split <;> omega
end Go.Proofs.YtblbheilddafbaaGreatDoor
