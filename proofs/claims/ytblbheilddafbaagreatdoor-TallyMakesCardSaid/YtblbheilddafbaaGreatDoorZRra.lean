/-
  Texts of the proof, merged by program: Rra.
-/
import Derived.Test.YtblbheilddafbaaGreatDoorZQv
set_option linter.unusedVariables false
set_option linter.unusedSimpArgs false
namespace Go.Proofs.YtblbheilddafbaaGreatDoor
open Go Go.RowKit
set_option maxRecDepth 20000 in
set_option maxHeartbeats 20000000 in
theorem rratio_any {La Lb : Nat} {va vb : Value} {z y : Int} {w : World} (ha : ZV La w va z) (hb : ZV Lb w vb y) (hy : y ≠ 0) (h1 : La ≤ 50000000) (h2 : Lb ≤ 50000000) :
    Calls Tryz.prog 67 #[va, vb] w (RetQ (max La Lb) w (frN z y) (frD z y)) := by
  obtain ⟨LL, hLL⟩ : ∃ LL, LL = max La Lb := ⟨_, rfl⟩
  obtain ⟨G, zn, yn, hG, hGe, hz, hyn, hyn0, hfn, hfd⟩ := fr_parts (z := z) hy
  obtain ⟨P, hP⟩ : ∃ P, frN z y = P := ⟨_, rfl⟩
  obtain ⟨D, hD⟩ : ∃ D, frD z y = D := ⟨_, rfl⟩
  rw [hP] at hfn
  rw [hD] at hfd
  rw [← hLL, hP, hD]
  have HP := Kept.mk hfn
  have HD := Kept.mk hfd
  have hLa : La ≤ LL := by omega
  have hLb : Lb ≤ LL := by omega
  have HA := Kept.mk (ha.mono hLa)
  have HB := Kept.mk (hb.mono hLb)
  have hLm : LL ≤ 50000000 := by omega
  obtain ⟨sa, ua, rfl, hsa, hna⟩ := ha
  obtain ⟨sb, ub, rfl, hsb, hnb⟩ := hb
  obtain ⟨ao, ka, ca, rfl, _, _⟩ := hna.form
  obtain ⟨bo, kb, cb, rfl, _, _⟩ := hnb.form
  have HX0 : Kept (Bxs w [.cells #[.bool sa, .slice ao ka ca] 25, .cells #[.bool sb, .slice bo kb cb] 25, .cells #[.bool false, .slice none 0 0, .bool false, .slice none 0 0] 72] (((w.alloc (.cells #[.bool sa, .slice ao ka ca] 25)).alloc (.cells #[.bool sb, .slice bo kb cb] 25)).alloc (.cells #[.bool false, .slice none 0 0, .bool false, .slice none 0 0] 72))) := ⟨(((Bxs.start w).alloc (by simp) _).alloc (by simp) _).alloc (by simp) _⟩
  have hgc := rgcdz_any (HA.out.below HX0.out.1) (HB.out.below HX0.out.1) (by omega) (by omega)
  rw [hGe, Nat.max_self] at hgc
  have HGC := Kept.mk hgc
  have HZ1 := Kept.mk hz
  have HZ2 := Kept.mk hyn
  have HG0 := Kept.mk hG
  have HYN := Kept.mk hyn0
  clear hna hnb hsa hsb hgc hz hyn hGe hfn hfd hP hD hy hG hLL
  obtain ⟨i0, i1, -, -⟩ := two_cells HX0.out.b0
  obtain ⟨i2, i3, -, -⟩ := two_cells HX0.out.b1
  go_enter Tryz.func67, Tryz.ntmps67
  go_wp2_with fail
  refine HGC.out.mono ?_
  rintro e w1 hR1
  obtain ⟨hb1, sg, go, kg, cg, rfl, hI1⟩ := hR1.four
  have HX1 := Kept.mk (HX0.out.below hb1)
  have hal : Below w1.heap.size w1 (w1.alloc (.cells #[.bool sg, .slice go kg cg] 25)) := (Below.refl _ _).alloc (Nat.le_refl _) _
  have HX2 := Kept.mk (HX1.out.below hal)
  have HG2 : Kept (Hz (w1.alloc (.cells #[.bool sg, .slice go kg cg] 25)) w1.heap.size (.bool sg) (.slice go kg cg)) := ⟨Hz.new _ _ _ _ rfl⟩
  have HIG := Kept.mk (hI1.below hal)
  have hg1 := HX1.out.l3
  clear hR1 hb1 hI1 hal i0 i1 i2 i3
  go_upto_region 2 with fail
  generalize w1.alloc (.cells #[.bool sg, .slice go kg cg] 25) = ws at *
  have hq1 : Kept (∀ W, Below ws.heap.size ws W → Calls Tryz.prog 113 #[.agg #[.bool sa, .slice ao ka ca], .agg #[.bool sg, .slice go kg cg]] W (fun e w' => Below W.heap.size W w' ∧ ∃ s ao k c, e = .returned (.agg #[.bool s, .slice ao k c]) ∧ ZV LL w' (.agg #[.bool s, .slice ao k c]) zn)) := ⟨fun W h => (rquo_any (z := zn) (y := G) (by have hA := HA.out.below (HX2.out.1.trans (h.mono HX2.out.1.size)); rw [HZ1.out] at hA; exact hA) (HIG.out.below h) (by have := HG0.out; omega) (by omega) (by omega)).mono fun e w' hR => hR.four⟩
  have hq2 : Kept (∀ W, Below ws.heap.size ws W → Calls Tryz.prog 113 #[.agg #[.bool sb, .slice bo kb cb], .agg #[.bool sg, .slice go kg cg]] W (fun e w' => Below W.heap.size W w' ∧ ∃ s ao k c, e = .returned (.agg #[.bool s, .slice ao k c]) ∧ ZV LL w' (.agg #[.bool s, .slice ao k c]) yn)) := ⟨fun W h => (rquo_any (z := yn) (y := G) (by have hB := HB.out.below (HX2.out.1.trans (h.mono HX2.out.1.size)); rw [HZ2.out] at hB; exact hB) (HIG.out.below h) (by have := HG0.out; omega) (by omega) (by omega)).mono fun e w' hR => hR.four⟩
  have hgs : w1.heap.size < ws.heap.size := HG2.out.lt
  have hs1 := HX2.out.l3
  go_cut [6, 7] (fun p p' wx => ∃ g g' : Nat, p = .pointer (some ⟨g, 0, none⟩) ∧ p' = .pointer (some ⟨g', 0, none⟩) ∧ ¬ g = g' ∧ w.heap.size + 3 ≤ g ∧ w.heap.size + 3 ≤ g' ∧ BoxZ LL wx g zn ∧ BoxZ LL wx g' yn ∧ Below ws.heap.size ws wx)
  case first =>
    obtain ⟨j0, j1, -, -⟩ := two_cells HX2.out.b0
    obtain ⟨j2, j3, -, -⟩ := two_cells HX2.out.b1
    obtain ⟨j4, j5, -, -⟩ := two_cells HG2.out
    have x00 : ¬ w.heap.size = ws.heap.size := by omega
    have x01 : ¬ ws.heap.size = w.heap.size := by omega
    have x02 : ¬ w.heap.size = ws.heap.size + 1 := by omega
    have x03 : ¬ ws.heap.size + 1 = w.heap.size := by omega
    have x10 : ¬ w.heap.size + 1 = ws.heap.size := by omega
    have x11 : ¬ ws.heap.size = w.heap.size + 1 := by omega
    have x12 : ¬ w.heap.size + 1 = ws.heap.size + 1 := by omega
    have x13 : ¬ ws.heap.size + 1 = w.heap.size + 1 := by omega
    have x20 : ¬ w1.heap.size = ws.heap.size := by omega
    have x21 : ¬ ws.heap.size = w1.heap.size := by omega
    have x22 : ¬ w1.heap.size = ws.heap.size + 1 := by omega
    have x23 : ¬ ws.heap.size + 1 = w1.heap.size := by omega
    go_region_held3 (fun w' => w'.cell? ⟨w.heap.size, 0, none⟩ = some (.bool sa) ∧ w'.cell? ⟨w.heap.size, 1, none⟩ = some (.slice ao ka ca) ∧ w'.cell? ⟨w.heap.size + 1, 0, none⟩ = some (.bool sb) ∧ w'.cell? ⟨w.heap.size + 1, 1, none⟩ = some (.slice bo kb cb) ∧ w'.cell? ⟨w1.heap.size, 0, none⟩ = some (.bool sg) ∧ w'.cell? ⟨w1.heap.size, 1, none⟩ = some (.slice go kg cg))
      (first | (with_reducible exact ⟨lb_0, lb_1, lb_2, lb_3, lb_4, lb_5⟩) | (with_reducible exact ⟨ka_0, ka_1, ka_2, ka_3, ka_4, ka_5⟩) | (with_reducible exact ⟨j0, j1, j2, j3, j4, j5⟩) | (refine ⟨?_, ?_, ?_, ?_, ?_, ?_⟩ <;> simp [go_sem, lb_0, lb_1, lb_2, lb_3, lb_4, lb_5, x00, x01, x02, x03, x10, x11, x12, x13, x20, x21, x22, x23, a00, a01, a02, a03, a10, a11, a12, a13, a20, a21, a22, a23, b00, b01, b02, b03, b10, b11, b12, b13, b20, b21, b22, b23]; done) | (refine ⟨?_, ?_, ?_, ?_, ?_, ?_⟩ <;> simp [go_sem, ka_0, ka_1, ka_2, ka_3, ka_4, ka_5, x00, x01, x02, x03, x10, x11, x12, x13, x20, x21, x22, x23, a00, a01, a02, a03, a10, a11, a12, a13, a20, a21, a22, a23]; done) | (refine ⟨?_, ?_, ?_, ?_, ?_, ?_⟩ <;> simp [go_sem, j0, j1, j2, j3, j4, j5, x00, x01, x02, x03, x10, x11, x12, x13, x20, x21, x22, x23]; done) | go_keep)
      ((first
        | (go_at_call 113; (with_reducible refine (hq1.out _ ?h1).mono ?_); (case h1 => exact (show Bxs ws [] _ from (by repeat (first | (with_reducible exact Bxs.start ws) | (with_reducible refine Bxs.drew ?_) | (with_reducible refine Bxs.more ?_ _)))).1); rintro e wA ⟨hbA, s3, o3, k3, c3, rfl, hI3⟩; have hyA : Bxs ws [] wA := Bxs.below (by repeat (first | (with_reducible exact Bxs.start ws) | (with_reducible refine Bxs.drew ?_) | (with_reducible refine Bxs.more ?_ _))) hbA; obtain ⟨ka_0, ka_1, -, -⟩ := two_cells (HX2.out.below hyA.1).b0; obtain ⟨ka_2, ka_3, -, -⟩ := two_cells (HX2.out.below hyA.1).b1; obtain ⟨ka_4, ka_5, -, -⟩ := two_cells (HG2.out.below hyA.1); have hlA := hyA.1.size; have a00 : ¬ w.heap.size = wA.heap.size := (by omega); have a01 : ¬ wA.heap.size = w.heap.size := (by omega); have a02 : ¬ w.heap.size = wA.heap.size + 1 := (by omega); have a03 : ¬ wA.heap.size + 1 = w.heap.size := (by omega); have a10 : ¬ w.heap.size + 1 = wA.heap.size := (by omega); have a11 : ¬ wA.heap.size = w.heap.size + 1 := (by omega); have a12 : ¬ w.heap.size + 1 = wA.heap.size + 1 := (by omega); have a13 : ¬ wA.heap.size + 1 = w.heap.size + 1 := (by omega); have a20 : ¬ w1.heap.size = wA.heap.size := (by omega); have a21 : ¬ wA.heap.size = w1.heap.size := (by omega); have a22 : ¬ w1.heap.size = wA.heap.size + 1 := (by omega); have a23 : ¬ wA.heap.size + 1 = w1.heap.size := (by omega); (try ((have za : Yb wA (ws.heap.size) := ?hzz); (case hzz => ((refine Yb.below ?_ hbA); (repeat (first | (with_reducible assumption) | ((with_reducible refine Yb.new _ _ ?_); simp; done) | (with_reducible refine Yb.drw ?_) | (with_reducible refine Yb.more ?_ _))); done)); obtain ⟨za0, za1, za2, za3⟩ := za.cells; have zal := za.lt)); (try ((have zb : Yb wA (ws.heap.size + 1) := ?hzz); (case hzz => ((refine Yb.below ?_ hbA); (repeat (first | (with_reducible assumption) | ((with_reducible refine Yb.new _ _ ?_); simp; done) | (with_reducible refine Yb.drw ?_) | (with_reducible refine Yb.more ?_ _))); done)); obtain ⟨zb0, zb1, zb2, zb3⟩ := zb.cells; have zbl := zb.lt)); clear hbA)
        | (go_at_call 113; (with_reducible refine (hq2.out _ ?h1).mono ?_); (case h1 => exact (show Bxs ws [] _ from (by repeat (first | (with_reducible exact hyA) | (with_reducible refine Bxs.drew ?_) | (with_reducible refine Bxs.more ?_ _)))).1); rintro e wB ⟨hbB, s4, o4, k4, c4, rfl, hI4⟩; have hyB : Bxs ws [] wB := Bxs.below (by repeat (first | (with_reducible exact hyA) | (with_reducible refine Bxs.drew ?_) | (with_reducible refine Bxs.more ?_ _))) hbB; obtain ⟨lb_0, lb_1, -, -⟩ := two_cells (HX2.out.below hyB.1).b0; obtain ⟨lb_2, lb_3, -, -⟩ := two_cells (HX2.out.below hyB.1).b1; obtain ⟨lb_4, lb_5, -, -⟩ := two_cells (HG2.out.below hyB.1); have hlB := hyB.1.size; have hI3' : ZV LL wB (.agg #[.bool s3, .slice o3 k3 c3]) zn := ZV.below (by repeat (first | (with_reducible exact hI3) | (with_reducible refine ZV.more ?_ _))) hbB; have hlAB : wA.heap.size ≤ wB.heap.size := (by have := hbB.size; (try simp at this); omega); have b00 : ¬ w.heap.size = wB.heap.size := (by omega); have b01 : ¬ wB.heap.size = w.heap.size := (by omega); have b02 : ¬ w.heap.size = wB.heap.size + 1 := (by omega); have b03 : ¬ wB.heap.size + 1 = w.heap.size := (by omega); have b10 : ¬ w.heap.size + 1 = wB.heap.size := (by omega); have b11 : ¬ wB.heap.size = w.heap.size + 1 := (by omega); have b12 : ¬ w.heap.size + 1 = wB.heap.size + 1 := (by omega); have b13 : ¬ wB.heap.size + 1 = w.heap.size + 1 := (by omega); have b20 : ¬ w1.heap.size = wB.heap.size := (by omega); have b21 : ¬ wB.heap.size = w1.heap.size := (by omega); have b22 : ¬ w1.heap.size = wB.heap.size + 1 := (by omega); have b23 : ¬ wB.heap.size + 1 = w1.heap.size := (by omega); (try ((have zc : Yb wB (ws.heap.size) := ?hzz); (case hzz => ((refine Yb.below ?_ hbB); (repeat (first | (with_reducible assumption) | ((with_reducible refine Yb.new _ _ ?_); simp; done) | (with_reducible refine Yb.drw ?_) | (with_reducible refine Yb.more ?_ _))); done)); obtain ⟨zc0, zc1, zc2, zc3⟩ := zc.cells; have zcl := zc.lt)); (try ((have zd : Yb wB (ws.heap.size + 1) := ?hzz); (case hzz => ((refine Yb.below ?_ hbB); (repeat (first | (with_reducible assumption) | ((with_reducible refine Yb.new _ _ ?_); simp; done) | (with_reducible refine Yb.drw ?_) | (with_reducible refine Yb.more ?_ _))); done)); obtain ⟨zd0, zd1, zd2, zd3⟩ := zd.cells; have zdl := zd.lt)); (try ((have ze : Yb wB (wA.heap.size) := ?hzz); (case hzz => ((refine Yb.below ?_ hbB); (repeat (first | (with_reducible assumption) | ((with_reducible refine Yb.new _ _ ?_); simp; done) | (with_reducible refine Yb.drw ?_) | (with_reducible refine Yb.more ?_ _))); done)); obtain ⟨ze0, ze1, ze2, ze3⟩ := ze.cells; have zel := ze.lt)); (try ((have zf : Yb wB (wA.heap.size + 1) := ?hzz); (case hzz => ((refine Yb.below ?_ hbB); (repeat (first | (with_reducible assumption) | ((with_reducible refine Yb.new _ _ ?_); simp; done) | (with_reducible refine Yb.drw ?_) | (with_reducible refine Yb.more ?_ _))); done)); obtain ⟨zf0, zf1, zf2, zf3⟩ := zf.cells; have zfl := zf.lt)); clear hbB ka_0 ka_1 ka_2 ka_3 ka_4 ka_5; (try clear za0 za1 za2 za3); (try clear zb0 zb1 zb2 zb3))))
    all_goals
      (go_wp2_with fail
       go_meet
       have hbwB : Below ws.heap.size ws wB := hyB.1
       obtain ⟨hsP, hnP⟩ := hI3'.parts
       obtain ⟨hsQ, hnQ⟩ := hI4.parts
       refine ⟨_, _, rfl, rfl, ?_, ?_, ?_, ⟨s3, o3, k3, c3, ?_, ⟨_, _, rfl, hsP, Oky.num (w0 := ws) ?_ hnP⟩⟩, ⟨s4, o4, k4, c4, ?_, ⟨_, _, rfl, hsQ, Oky.num (w0 := ws) ?_ hnQ⟩⟩, Oky.bel (w3 := wB) ?_⟩
       all_goals (try (repeat (any_goals (first | (with_reducible exact Oky.start hbwB) | (with_reducible refine Oky.alloc ?_ _) | (with_reducible refine Oky.set ?_ ?_ ?_ _ _)))))
       all_goals (first | omega | (repeat (first | ((with_reducible refine Yb.hz ?_); (with_reducible assumption)) | ((with_reducible refine Hz.new _ _ _ _ ?_); simp; done) | (with_reducible refine Hz.two ?_ _ _) | ((with_reducible refine Hz.other ?_ ?hne _ _); (case hne => omega)) | (with_reducible refine Hz.more2 ?_ _)))))
  case rest =>
    obtain ⟨gp, gq, rfl, rfl, hne, hgp, hgq, ⟨s5, o5, k5, c5, hg5, hI5⟩, ⟨s6, o6, k6, c6, hg6, hI6⟩, hbw⟩ := hcut
    have HX5 := Kept.mk (HX2.out.below hbw)
    have HG5 := Kept.mk hg5
    have HG6 := Kept.mk hg6
    have HI5 := Kept.mk hI5
    have HI6 := Kept.mk hI6
    clear hbw hg5 hg6 hI5 hI6
    obtain ⟨hs6, hn6⟩ := HI6.out.parts
    clear hn6
    by_cases hneg : yn < 0
    · have e6 : s6 = true := by rw [hs6]; simpa using hneg
      subst e6
      clear hs6
      obtain ⟨a0, a1, b0, b1⟩ := two_cells HG5.out
      obtain ⟨c0, c1, d0, d1⟩ := two_cells HG6.out
      have hP : -zn = P := by rw [HP.out, if_pos hneg]
      have hD : -yn = D := by rw [HD.out, if_pos hneg]
      have HPP := Kept.mk hP
      have HDD := Kept.mk hD
      clear hP hD
      go_wp2_with fail
      refine wp_region_held_drew (S := fun _ => True) (by kernel_rfl) trivial (fun hHeld => ?_)
      refine wpAnyH_ready (rs := [0, 2]) (by kernel_rfl) (by simp) ?_
      refine AllReadyH.cons rfl (fun K hK => ?_) (AllReadyH.cons rfl (fun K hK => ?_) AllReadyH.nil)
      · go_simp
        refine hK.out _ _ trivial (fun hHeld => ?_)
        clear hK K
        try simp only [Act.put, List.getElem_toArray, List.getElem_cons_succ, List.getElem_cons_zero, List.setIfInBounds_toArray, List.set_cons_zero, List.set_cons_succ]
        refine wpAnyH_ready (rs := [1, 2]) (by kernel_rfl) (by simp) ?_
        refine AllReadyH.cons rfl (fun K hK => ?_) (AllReadyH.cons rfl (fun K hK => ?_) AllReadyH.nil)
        · go_simp
          refine (rnegz_any (show ZV LL wc.drew _ zn from HI5.out.below (Below.refl _ _).drew)).mono ?_
          rintro e w7 hR7
          obtain ⟨hb7, s7, o7, k7, c7, rfl, hI7⟩ := hR7.four
          have hb7' : Below wc.heap.size wc w7 := (Below.refl _ _).drew.trans hb7
          obtain ⟨c0', c1', -, -⟩ := two_cells (HG6.out.below hb7')
          refine hK.out _ _ trivial (fun hHeld => ?_)
          clear hK K
          try simp only [Act.put, List.getElem_toArray, List.getElem_cons_succ, List.getElem_cons_zero, List.setIfInBounds_toArray, List.set_cons_zero, List.set_cons_succ]
          refine wpAnyH_ready (rs := [2]) (by kernel_rfl) (by simp) ?_
          refine AllReadyH.cons rfl (fun K hK => ?_) AllReadyH.nil
          go_simp
          refine hK.out _ _ trivial (fun hHeld => ?_)
          clear hK K
          try simp only [Act.put, List.getElem_toArray, List.getElem_cons_succ, List.getElem_cons_zero, List.setIfInBounds_toArray, List.set_cons_zero, List.set_cons_succ]
          refine wpAnyH_ready (rs := [3]) (by kernel_rfl) (by simp) ?_
          refine AllReadyH.cons rfl (fun K hK => ?_) AllReadyH.nil
          go_simp
          refine (rnegz_any (HI6.out.below hb7')).mono ?_
          rintro e w8 hR8
          obtain ⟨hb8, s8, o8, k8, c8, rfl, hI8⟩ := hR8.four
          have hb8' := hb7'.trans (hb8.mono hb7'.size)
          have HX8 := Kept.mk (HX5.out.below hb8')
          have HP8 := Kept.mk (HG5.out.below hb8')
          have HQ8 := Kept.mk (HG6.out.below hb8')
          obtain ⟨p0, p1, p2, p3⟩ := two_cells HP8.out
          have hlp := HP8.out.lt
          have hlq := HQ8.out.lt
          refine hK.out _ _ trivial (fun hHeld => ?_)
          clear hK K
          try simp only [Act.put, List.getElem_toArray, List.getElem_cons_succ, List.getElem_cons_zero, List.setIfInBounds_toArray, List.set_cons_zero, List.set_cons_succ]
          have HQ9 : Kept (Hz ((w8.setCell ⟨gp, 0, none⟩ (.bool s7)).setCell ⟨gp, 1, none⟩ (.slice o7 k7 c7)) gq (.bool true) (.slice o6 k6 c6)) := ⟨HQ8.out.other (fun e => hne e.symm) _ _⟩
          have HP9 : Kept (Hz ((w8.setCell ⟨gp, 0, none⟩ (.bool s7)).setCell ⟨gp, 1, none⟩ (.slice o7 k7 c7)) gp (.bool s7) (.slice o7 k7 c7)) := ⟨two_set HP8.out _ _⟩
          obtain ⟨q0, q1, q2, q3⟩ := two_cells HQ9.out
          have HPt : Kept (Hz ((((w8.setCell ⟨gp, 0, none⟩ (.bool s7)).setCell ⟨gp, 1, none⟩ (.slice o7 k7 c7)).setCell ⟨gq, 0, none⟩ (.bool s8)).setCell ⟨gq, 1, none⟩ (.slice o8 k8 c8)) gp (.bool s7) (.slice o7 k7 c7)) := ⟨HP9.out.other hne _ _⟩
          have HQt : Kept (Hz ((((w8.setCell ⟨gp, 0, none⟩ (.bool s7)).setCell ⟨gp, 1, none⟩ (.slice o7 k7 c7)).setCell ⟨gq, 0, none⟩ (.bool s8)).setCell ⟨gq, 1, none⟩ (.slice o8 k8 c8)) gq (.bool s8) (.slice o8 k8 c8)) := ⟨two_set HQ9.out _ _⟩
          have HXt : Kept (Bxs w [.cells #[.bool sa, .slice ao ka ca] 25, .cells #[.bool sb, .slice bo kb cb] 25, .cells #[.bool false, .slice none 0 0, .bool false, .slice none 0 0] 72] ((((w8.setCell ⟨gp, 0, none⟩ (.bool s7)).setCell ⟨gp, 1, none⟩ (.slice o7 k7 c7)).setCell ⟨gq, 0, none⟩ (.bool s8)).setCell ⟨gq, 1, none⟩ (.slice o8 k8 c8))) := ⟨(HX8.out.grown (growSet (growSet (growRefl w8 (some gp)) 0 _) 1 _) (fun j hj => by cases hj; simpa using hgp)).grown (growSet (growSet (growRefl _ (some gq)) 0 _) 1 _) (fun j hj => by cases hj; simpa using hgq)⟩
          obtain ⟨t1, t2⟩ := (hI7.below hb8).parts
          obtain ⟨t3, t4⟩ := hI8.parts
          rw [HPP.out] at t1 t2
          rw [HDD.out] at t3 t4
          have HPz : Kept (ZV LL ((((w8.setCell ⟨gp, 0, none⟩ (.bool s7)).setCell ⟨gp, 1, none⟩ (.slice o7 k7 c7)).setCell ⟨gq, 0, none⟩ (.bool s8)).setCell ⟨gq, 1, none⟩ (.slice o8 k8 c8)) (.agg #[.bool s7, .slice o7 k7 c7]) P) := ⟨⟨_, _, rfl, t1, (t2.box HP8.out _ _).box HQ9.out _ _⟩⟩
          have HQz : Kept (ZV LL ((((w8.setCell ⟨gp, 0, none⟩ (.bool s7)).setCell ⟨gp, 1, none⟩ (.slice o7 k7 c7)).setCell ⟨gq, 0, none⟩ (.bool s8)).setCell ⟨gq, 1, none⟩ (.slice o8 k8 c8)) (.agg #[.bool s8, .slice o8 k8 c8]) D) := ⟨⟨_, _, rfl, t3, (t4.box HP8.out _ _).box HQ9.out _ _⟩⟩
          clear t1 t2 t3 t4 hI7 hI8 hR7 hR8
          refine wpAnyH_ready (rs := [4]) (by kernel_rfl) (by simp) ?_
          refine AllReadyH.cons rfl (fun K hK => ?_) AllReadyH.nil
          go_simp
          refine hK.out _ _ trivial (fun hHeld => ?_)
          clear hK K
          try simp only [Act.put, List.getElem_toArray, List.getElem_cons_succ, List.getElem_cons_zero, List.setIfInBounds_toArray, List.set_cons_zero, List.set_cons_succ]
          refine wpAnyH_ready (rs := [5]) (by kernel_rfl) (by simp) ?_
          refine AllReadyH.cons rfl (fun K hK => ?_) AllReadyH.nil
          go_simp
          refine hK.out _ _ trivial (fun hHeld => ?_)
          clear hK K
          try simp only [Act.put, List.getElem_toArray, List.getElem_cons_succ, List.getElem_cons_zero, List.setIfInBounds_toArray, List.set_cons_zero, List.set_cons_succ]
          refine wpAnyH_done (by kernel_rfl) ?_ _
          obtain ⟨y0, y1, -, -⟩ := two_cells HPt.out
          obtain ⟨z0, z1, -, -⟩ := two_cells HQt.out
          clear p0 p1 p2 p3 q0 q1 q2 q3 a0 a1 b0 b1 c0 c1 d0 d1 c0' c1'
          have hbx := HXt.out.b2
          obtain ⟨r0, r1, r2, r3, f0, f1, f2, f3⟩ := four_cells hbx
          have hszr := HXt.out.l3
          have HE := Kept.mk (fun W' => q_end (L := LL) (w := w) hbx HXt.out.1 (by omega) HPz.out HQz.out W')
          clear hbx
          go_wp2
          have hE := HE.out _ rfl
          exact bodyPost_ret (v := .agg #[.bool s7, .slice o7 k7 c7, .bool s8, .slice o8 k8 c8]) (by simp [results, Tryz.results67, go_sem, hE.2.2.1, hE.2.2.2.1, hE.2.2.2.2.1, hE.2.2.2.2.2]) rfl ⟨hE.1, _, rfl, hE.2.1⟩
        · go_simp
          refine hK.out _ _ trivial (fun hHeld => ?_)
          clear hK K
          try simp only [Act.put, List.getElem_toArray, List.getElem_cons_succ, List.getElem_cons_zero, List.setIfInBounds_toArray, List.set_cons_zero, List.set_cons_succ]
          refine wpAnyH_ready (rs := [1]) (by kernel_rfl) (by simp) ?_
          refine AllReadyH.cons rfl (fun K hK => ?_) AllReadyH.nil
          go_simp
          refine (rnegz_any (show ZV LL wc.drew _ zn from HI5.out.below (Below.refl _ _).drew)).mono ?_
          rintro e w7 hR7
          obtain ⟨hb7, s7, o7, k7, c7, rfl, hI7⟩ := hR7.four
          have hb7' : Below wc.heap.size wc w7 := (Below.refl _ _).drew.trans hb7
          obtain ⟨c0', c1', -, -⟩ := two_cells (HG6.out.below hb7')
          refine hK.out _ _ trivial (fun hHeld => ?_)
          clear hK K
          try simp only [Act.put, List.getElem_toArray, List.getElem_cons_succ, List.getElem_cons_zero, List.setIfInBounds_toArray, List.set_cons_zero, List.set_cons_succ]
          refine wpAnyH_ready (rs := [3]) (by kernel_rfl) (by simp) ?_
          refine AllReadyH.cons rfl (fun K hK => ?_) AllReadyH.nil
          go_simp
          refine (rnegz_any (HI6.out.below hb7')).mono ?_
          rintro e w8 hR8
          obtain ⟨hb8, s8, o8, k8, c8, rfl, hI8⟩ := hR8.four
          have hb8' := hb7'.trans (hb8.mono hb7'.size)
          have HX8 := Kept.mk (HX5.out.below hb8')
          have HP8 := Kept.mk (HG5.out.below hb8')
          have HQ8 := Kept.mk (HG6.out.below hb8')
          obtain ⟨p0, p1, p2, p3⟩ := two_cells HP8.out
          have hlp := HP8.out.lt
          have hlq := HQ8.out.lt
          refine hK.out _ _ trivial (fun hHeld => ?_)
          clear hK K
          try simp only [Act.put, List.getElem_toArray, List.getElem_cons_succ, List.getElem_cons_zero, List.setIfInBounds_toArray, List.set_cons_zero, List.set_cons_succ]
          have HQ9 : Kept (Hz ((w8.setCell ⟨gp, 0, none⟩ (.bool s7)).setCell ⟨gp, 1, none⟩ (.slice o7 k7 c7)) gq (.bool true) (.slice o6 k6 c6)) := ⟨HQ8.out.other (fun e => hne e.symm) _ _⟩
          have HP9 : Kept (Hz ((w8.setCell ⟨gp, 0, none⟩ (.bool s7)).setCell ⟨gp, 1, none⟩ (.slice o7 k7 c7)) gp (.bool s7) (.slice o7 k7 c7)) := ⟨two_set HP8.out _ _⟩
          obtain ⟨q0, q1, q2, q3⟩ := two_cells HQ9.out
          have HPt : Kept (Hz ((((w8.setCell ⟨gp, 0, none⟩ (.bool s7)).setCell ⟨gp, 1, none⟩ (.slice o7 k7 c7)).setCell ⟨gq, 0, none⟩ (.bool s8)).setCell ⟨gq, 1, none⟩ (.slice o8 k8 c8)) gp (.bool s7) (.slice o7 k7 c7)) := ⟨HP9.out.other hne _ _⟩
          have HQt : Kept (Hz ((((w8.setCell ⟨gp, 0, none⟩ (.bool s7)).setCell ⟨gp, 1, none⟩ (.slice o7 k7 c7)).setCell ⟨gq, 0, none⟩ (.bool s8)).setCell ⟨gq, 1, none⟩ (.slice o8 k8 c8)) gq (.bool s8) (.slice o8 k8 c8)) := ⟨two_set HQ9.out _ _⟩
          have HXt : Kept (Bxs w [.cells #[.bool sa, .slice ao ka ca] 25, .cells #[.bool sb, .slice bo kb cb] 25, .cells #[.bool false, .slice none 0 0, .bool false, .slice none 0 0] 72] ((((w8.setCell ⟨gp, 0, none⟩ (.bool s7)).setCell ⟨gp, 1, none⟩ (.slice o7 k7 c7)).setCell ⟨gq, 0, none⟩ (.bool s8)).setCell ⟨gq, 1, none⟩ (.slice o8 k8 c8))) := ⟨(HX8.out.grown (growSet (growSet (growRefl w8 (some gp)) 0 _) 1 _) (fun j hj => by cases hj; simpa using hgp)).grown (growSet (growSet (growRefl _ (some gq)) 0 _) 1 _) (fun j hj => by cases hj; simpa using hgq)⟩
          obtain ⟨t1, t2⟩ := (hI7.below hb8).parts
          obtain ⟨t3, t4⟩ := hI8.parts
          rw [HPP.out] at t1 t2
          rw [HDD.out] at t3 t4
          have HPz : Kept (ZV LL ((((w8.setCell ⟨gp, 0, none⟩ (.bool s7)).setCell ⟨gp, 1, none⟩ (.slice o7 k7 c7)).setCell ⟨gq, 0, none⟩ (.bool s8)).setCell ⟨gq, 1, none⟩ (.slice o8 k8 c8)) (.agg #[.bool s7, .slice o7 k7 c7]) P) := ⟨⟨_, _, rfl, t1, (t2.box HP8.out _ _).box HQ9.out _ _⟩⟩
          have HQz : Kept (ZV LL ((((w8.setCell ⟨gp, 0, none⟩ (.bool s7)).setCell ⟨gp, 1, none⟩ (.slice o7 k7 c7)).setCell ⟨gq, 0, none⟩ (.bool s8)).setCell ⟨gq, 1, none⟩ (.slice o8 k8 c8)) (.agg #[.bool s8, .slice o8 k8 c8]) D) := ⟨⟨_, _, rfl, t3, (t4.box HP8.out _ _).box HQ9.out _ _⟩⟩
          clear t1 t2 t3 t4 hI7 hI8 hR7 hR8
          refine wpAnyH_ready (rs := [4]) (by kernel_rfl) (by simp) ?_
          refine AllReadyH.cons rfl (fun K hK => ?_) AllReadyH.nil
          go_simp
          refine hK.out _ _ trivial (fun hHeld => ?_)
          clear hK K
          try simp only [Act.put, List.getElem_toArray, List.getElem_cons_succ, List.getElem_cons_zero, List.setIfInBounds_toArray, List.set_cons_zero, List.set_cons_succ]
          refine wpAnyH_ready (rs := [5]) (by kernel_rfl) (by simp) ?_
          refine AllReadyH.cons rfl (fun K hK => ?_) AllReadyH.nil
          go_simp
          refine hK.out _ _ trivial (fun hHeld => ?_)
          clear hK K
          try simp only [Act.put, List.getElem_toArray, List.getElem_cons_succ, List.getElem_cons_zero, List.setIfInBounds_toArray, List.set_cons_zero, List.set_cons_succ]
          refine wpAnyH_done (by kernel_rfl) ?_ _
          obtain ⟨y0, y1, -, -⟩ := two_cells HPt.out
          obtain ⟨z0, z1, -, -⟩ := two_cells HQt.out
          clear p0 p1 p2 p3 q0 q1 q2 q3 a0 a1 b0 b1 c0 c1 d0 d1 c0' c1'
          have hbx := HXt.out.b2
          obtain ⟨r0, r1, r2, r3, f0, f1, f2, f3⟩ := four_cells hbx
          have hszr := HXt.out.l3
          have HE := Kept.mk (fun W' => q_end (L := LL) (w := w) hbx HXt.out.1 (by omega) HPz.out HQz.out W')
          clear hbx
          go_wp2
          have hE := HE.out _ rfl
          exact bodyPost_ret (v := .agg #[.bool s7, .slice o7 k7 c7, .bool s8, .slice o8 k8 c8]) (by simp [results, Tryz.results67, go_sem, hE.2.2.1, hE.2.2.2.1, hE.2.2.2.2.1, hE.2.2.2.2.2]) rfl ⟨hE.1, _, rfl, hE.2.1⟩
      · go_simp
        refine hK.out _ _ trivial (fun hHeld => ?_)
        clear hK K
        try simp only [Act.put, List.getElem_toArray, List.getElem_cons_succ, List.getElem_cons_zero, List.setIfInBounds_toArray, List.set_cons_zero, List.set_cons_succ]
        refine wpAnyH_ready (rs := [0]) (by kernel_rfl) (by simp) ?_
        refine AllReadyH.cons rfl (fun K hK => ?_) AllReadyH.nil
        go_simp
        refine hK.out _ _ trivial (fun hHeld => ?_)
        clear hK K
        try simp only [Act.put, List.getElem_toArray, List.getElem_cons_succ, List.getElem_cons_zero, List.setIfInBounds_toArray, List.set_cons_zero, List.set_cons_succ]
        refine wpAnyH_ready (rs := [1]) (by kernel_rfl) (by simp) ?_
        refine AllReadyH.cons rfl (fun K hK => ?_) AllReadyH.nil
        go_simp
        refine (rnegz_any (show ZV LL wc.drew _ zn from HI5.out.below (Below.refl _ _).drew)).mono ?_
        rintro e w7 hR7
        obtain ⟨hb7, s7, o7, k7, c7, rfl, hI7⟩ := hR7.four
        have hb7' : Below wc.heap.size wc w7 := (Below.refl _ _).drew.trans hb7
        obtain ⟨c0', c1', -, -⟩ := two_cells (HG6.out.below hb7')
        refine hK.out _ _ trivial (fun hHeld => ?_)
        clear hK K
        try simp only [Act.put, List.getElem_toArray, List.getElem_cons_succ, List.getElem_cons_zero, List.setIfInBounds_toArray, List.set_cons_zero, List.set_cons_succ]
        refine wpAnyH_ready (rs := [3]) (by kernel_rfl) (by simp) ?_
        refine AllReadyH.cons rfl (fun K hK => ?_) AllReadyH.nil
        go_simp
        refine (rnegz_any (HI6.out.below hb7')).mono ?_
        rintro e w8 hR8
        obtain ⟨hb8, s8, o8, k8, c8, rfl, hI8⟩ := hR8.four
        have hb8' := hb7'.trans (hb8.mono hb7'.size)
        have HX8 := Kept.mk (HX5.out.below hb8')
        have HP8 := Kept.mk (HG5.out.below hb8')
        have HQ8 := Kept.mk (HG6.out.below hb8')
        obtain ⟨p0, p1, p2, p3⟩ := two_cells HP8.out
        have hlp := HP8.out.lt
        have hlq := HQ8.out.lt
        refine hK.out _ _ trivial (fun hHeld => ?_)
        clear hK K
        try simp only [Act.put, List.getElem_toArray, List.getElem_cons_succ, List.getElem_cons_zero, List.setIfInBounds_toArray, List.set_cons_zero, List.set_cons_succ]
        have HQ9 : Kept (Hz ((w8.setCell ⟨gp, 0, none⟩ (.bool s7)).setCell ⟨gp, 1, none⟩ (.slice o7 k7 c7)) gq (.bool true) (.slice o6 k6 c6)) := ⟨HQ8.out.other (fun e => hne e.symm) _ _⟩
        have HP9 : Kept (Hz ((w8.setCell ⟨gp, 0, none⟩ (.bool s7)).setCell ⟨gp, 1, none⟩ (.slice o7 k7 c7)) gp (.bool s7) (.slice o7 k7 c7)) := ⟨two_set HP8.out _ _⟩
        obtain ⟨q0, q1, q2, q3⟩ := two_cells HQ9.out
        have HPt : Kept (Hz ((((w8.setCell ⟨gp, 0, none⟩ (.bool s7)).setCell ⟨gp, 1, none⟩ (.slice o7 k7 c7)).setCell ⟨gq, 0, none⟩ (.bool s8)).setCell ⟨gq, 1, none⟩ (.slice o8 k8 c8)) gp (.bool s7) (.slice o7 k7 c7)) := ⟨HP9.out.other hne _ _⟩
        have HQt : Kept (Hz ((((w8.setCell ⟨gp, 0, none⟩ (.bool s7)).setCell ⟨gp, 1, none⟩ (.slice o7 k7 c7)).setCell ⟨gq, 0, none⟩ (.bool s8)).setCell ⟨gq, 1, none⟩ (.slice o8 k8 c8)) gq (.bool s8) (.slice o8 k8 c8)) := ⟨two_set HQ9.out _ _⟩
        have HXt : Kept (Bxs w [.cells #[.bool sa, .slice ao ka ca] 25, .cells #[.bool sb, .slice bo kb cb] 25, .cells #[.bool false, .slice none 0 0, .bool false, .slice none 0 0] 72] ((((w8.setCell ⟨gp, 0, none⟩ (.bool s7)).setCell ⟨gp, 1, none⟩ (.slice o7 k7 c7)).setCell ⟨gq, 0, none⟩ (.bool s8)).setCell ⟨gq, 1, none⟩ (.slice o8 k8 c8))) := ⟨(HX8.out.grown (growSet (growSet (growRefl w8 (some gp)) 0 _) 1 _) (fun j hj => by cases hj; simpa using hgp)).grown (growSet (growSet (growRefl _ (some gq)) 0 _) 1 _) (fun j hj => by cases hj; simpa using hgq)⟩
        obtain ⟨t1, t2⟩ := (hI7.below hb8).parts
        obtain ⟨t3, t4⟩ := hI8.parts
        rw [HPP.out] at t1 t2
        rw [HDD.out] at t3 t4
        have HPz : Kept (ZV LL ((((w8.setCell ⟨gp, 0, none⟩ (.bool s7)).setCell ⟨gp, 1, none⟩ (.slice o7 k7 c7)).setCell ⟨gq, 0, none⟩ (.bool s8)).setCell ⟨gq, 1, none⟩ (.slice o8 k8 c8)) (.agg #[.bool s7, .slice o7 k7 c7]) P) := ⟨⟨_, _, rfl, t1, (t2.box HP8.out _ _).box HQ9.out _ _⟩⟩
        have HQz : Kept (ZV LL ((((w8.setCell ⟨gp, 0, none⟩ (.bool s7)).setCell ⟨gp, 1, none⟩ (.slice o7 k7 c7)).setCell ⟨gq, 0, none⟩ (.bool s8)).setCell ⟨gq, 1, none⟩ (.slice o8 k8 c8)) (.agg #[.bool s8, .slice o8 k8 c8]) D) := ⟨⟨_, _, rfl, t3, (t4.box HP8.out _ _).box HQ9.out _ _⟩⟩
        clear t1 t2 t3 t4 hI7 hI8 hR7 hR8
        refine wpAnyH_ready (rs := [4]) (by kernel_rfl) (by simp) ?_
        refine AllReadyH.cons rfl (fun K hK => ?_) AllReadyH.nil
        go_simp
        refine hK.out _ _ trivial (fun hHeld => ?_)
        clear hK K
        try simp only [Act.put, List.getElem_toArray, List.getElem_cons_succ, List.getElem_cons_zero, List.setIfInBounds_toArray, List.set_cons_zero, List.set_cons_succ]
        refine wpAnyH_ready (rs := [5]) (by kernel_rfl) (by simp) ?_
        refine AllReadyH.cons rfl (fun K hK => ?_) AllReadyH.nil
        go_simp
        refine hK.out _ _ trivial (fun hHeld => ?_)
        clear hK K
        try simp only [Act.put, List.getElem_toArray, List.getElem_cons_succ, List.getElem_cons_zero, List.setIfInBounds_toArray, List.set_cons_zero, List.set_cons_succ]
        refine wpAnyH_done (by kernel_rfl) ?_ _
        obtain ⟨y0, y1, -, -⟩ := two_cells HPt.out
        obtain ⟨z0, z1, -, -⟩ := two_cells HQt.out
        clear p0 p1 p2 p3 q0 q1 q2 q3 a0 a1 b0 b1 c0 c1 d0 d1 c0' c1'
        have hbx := HXt.out.b2
        obtain ⟨r0, r1, r2, r3, f0, f1, f2, f3⟩ := four_cells hbx
        have hszr := HXt.out.l3
        have HE := Kept.mk (fun W' => q_end (L := LL) (w := w) hbx HXt.out.1 (by omega) HPz.out HQz.out W')
        clear hbx
        go_wp2
        have hE := HE.out _ rfl
        exact bodyPost_ret (v := .agg #[.bool s7, .slice o7 k7 c7, .bool s8, .slice o8 k8 c8]) (by simp [results, Tryz.results67, go_sem, hE.2.2.1, hE.2.2.2.1, hE.2.2.2.2.1, hE.2.2.2.2.2]) rfl ⟨hE.1, _, rfl, hE.2.1⟩
    · have e6 : s6 = false := by rw [hs6]; simpa using hneg
      subst e6
      clear hs6
      have hP : zn = P := by rw [HP.out, if_neg hneg]
      have hD : yn = D := by rw [HD.out, if_neg hneg]
      have HI5' := HI5.out
      have HI6' := HI6.out
      rw [hP] at HI5'
      rw [hD] at HI6'
      have HP5 := Kept.mk HI5'
      have HQ6 := Kept.mk HI6'
      clear HI5' HI6' hP hD
      obtain ⟨a0, a1, b0, b1⟩ := two_cells HG5.out
      obtain ⟨c0, c1, d0, d1⟩ := two_cells HG6.out
      have hbx := HX5.out.b2
      obtain ⟨r0, r1, r2, r3, f0, f1, f2, f3⟩ := four_cells hbx
      have hszr := HX5.out.l3
      have HE := Kept.mk (fun W' => q_end (L := LL) (w := w) hbx HX5.out.1 (by omega) HP5.out HQ6.out W')
      clear hbx
      go_wp2
      have hE := HE.out _ rfl
      exact bodyPost_ret (v := .agg #[.bool s5, .slice o5 k5 c5, .bool false, .slice o6 k6 c6]) (by simp [results, Tryz.results67, go_sem, hE.2.2.1, hE.2.2.2.1, hE.2.2.2.2.1, hE.2.2.2.2.2]) rfl ⟨hE.1, _, rfl, hE.2.1⟩
end Go.Proofs.YtblbheilddafbaaGreatDoor
