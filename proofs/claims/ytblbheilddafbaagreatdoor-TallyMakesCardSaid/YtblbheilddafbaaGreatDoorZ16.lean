/-
  Texts of the proof, merged by program: Rat7.
-/
import Derived.Test.YtblbheilddafbaaGreatDoorZ15
set_option linter.unusedVariables false
set_option linter.unusedSimpArgs false
namespace Go.Proofs.YtblbheilddafbaaGreatDoor
open Go Go.RowKit
/-- What crossed returns. -/
def CrRet (L : Nat) (w : World) (y z : Int) (e : Ending) (w' : World) : Prop := Below w.heap.size w w' ∧ ∃ v1 v2, e = .returned (.tuple #[v1, v2]) ∧ IntV L w' v1 y ∧ IntV L w' v2 z
set_option maxRecDepth 20000 in
set_option maxHeartbeats 4000000 in
theorem crossed_any {La Lb : Nat} {va vb : Value} {p q r t : Int} {w : World} (ha : RatV La w va p q) (hb : RatV Lb w vb r t) (hq : 0 < q) (ht : 0 < t) (h1 : La ≤ 134217728) (h2 : Lb ≤ 134217728) :
    Calls Tryz.prog 122 #[va, vb] w (CrRet (La + Lb + 1) w (p * t) (r * q)) := by
  obtain ⟨sa, ao, ka, ca, uo, ku, cu, rfl, ra1, ra2, ra3, ra4⟩ := ha.form
  clear ra1 ra2 ra3 ra4
  obtain ⟨sb, bo, kb, cb, yo, ky, cy, rfl, ra1, ra2, ra3, ra4⟩ := hb.form
  clear ra1 ra2 ra3 ra4
  have HX0 : Hid (Bxs w [.cells #[.bool sa, .slice ao ka ca, .slice uo ku cu] 76, .cells #[.bool sb, .slice bo kb cb, .slice yo ky cy] 76, .cells #[.bool false, .slice none 0 0] 30, .cells #[.bool false, .slice none 0 0] 30]
      ((((w.alloc (.cells #[.bool sa, .slice ao ka ca, .slice uo ku cu] 76)).alloc (.cells #[.bool sb, .slice bo kb cb, .slice yo ky cy] 76)).alloc (.cells #[.bool false, .slice none 0 0] 30)).alloc (.cells #[.bool false, .slice none 0 0] 30))) :=
    ((((Bxs.start w).alloc (by simp) _).alloc (by simp) _).alloc (by simp) _).alloc (by simp) _
  have HA := Lib.hid ha
  have HB := Lib.hid hb
  have HD1 : Hid (∀ W, Below w.heap.size w W → Calls Tryz.prog 58 #[.agg #[.bool sb, .slice bo kb cb, .slice yo ky cy]] W (RetInt (max Lb 1) W t)) := fun W hW => den_any (HB.out.below hW) ht (by omega)
  have HD2 : Hid (∀ W, Below w.heap.size w W → Calls Tryz.prog 58 #[.agg #[.bool sa, .slice ao ka ca, .slice uo ku cu]] W (RetInt (max La 1) W q)) := fun W hW => den_any (HA.out.below hW) hq (by omega)
  have HM1 : Hid (∀ W v, Below w.heap.size w W → IntV (max Lb 1) W v t → Calls Tryz.prog 97 #[.agg #[.bool sa, .slice ao ka ca], v] W (RetInt (La + Lb + 1) W (p * t))) := fun W v hW hv =>
    (times_any (HA.out.below hW).int hv (by omega) (by omega)).mono fun e w' ⟨h, v', e1, hi⟩ => ⟨h, v', e1, hi.mono (by omega)⟩
  have HM2 : Hid (∀ W v, Below w.heap.size w W → IntV (max La 1) W v q → Calls Tryz.prog 97 #[.agg #[.bool sb, .slice bo kb cb], v] W (RetInt (La + Lb + 1) W (r * q))) := fun W v hW hv =>
    (times_any (HB.out.below hW).int hv (by omega) (by omega)).mono fun e w' ⟨h, v', e1, hi⟩ => ⟨h, v', e1, hi.mono (by omega)⟩
  obtain ⟨LL, hLL⟩ : ∃ LL, LL = La + Lb + 1 := ⟨_, rfl⟩
  rw [← hLL] at HM1 HM2 ⊢
  have HL := Lib.hid hLL
  clear ha hb hLL
  go_enter Tryz.func122, Tryz.ntmps122
  go_wp2_with fail
  go_region_held3 (fun w' => w'.cell? ⟨w.heap.size, 0, none⟩ = some (.bool sa) ∧ w'.cell? ⟨w.heap.size, 1, none⟩ = some (.slice ao ka ca) ∧ w'.cell? ⟨w.heap.size, 2, none⟩ = some (.slice uo ku cu) ∧
      w'.cell? ⟨w.heap.size + 1, 0, none⟩ = some (.bool sb) ∧ w'.cell? ⟨w.heap.size + 1, 1, none⟩ = some (.slice bo kb cb) ∧ w'.cell? ⟨w.heap.size + 1, 2, none⟩ = some (.slice yo ky cy))
    (first | exact ⟨m0, m1, m2, m3, m4, m5⟩ | exact ⟨l0, l1, l2, l3, l4, l5⟩ | exact ⟨k0, k1, k2, k3, k4, k5⟩ | exact ⟨i0, i1, i2, i3, i4, i5⟩ | (refine ⟨?_, ?_, ?_, ?_, ?_, ?_⟩ <;> simp [go_sem, m0, m1, m2, m3, m4, m5]; done) | (refine ⟨?_, ?_, ?_, ?_, ?_, ?_⟩ <;> simp [go_sem]; done) | go_keep)
    ((first
      | (go_at_call 58; (with_reducible refine (HD1.out _ ?hx1).mono ?_); (case hx1 => exact HX0.out.drew.1); rintro e w1 ⟨hb1, v1, rfl, hI1⟩; have hx1 := HX0.out.drew.below hb1; obtain ⟨i0, i1, i2, _⟩ := three_cells hx1.b0; obtain ⟨i3, i4, i5, _⟩ := three_cells hx1.b1)
      | (go_at_call 97; (with_reducible refine (HM1.out _ _ ?hx2 ?hx3).mono ?_); (case hx2 => exact hx1.1); (case hx3 => exact hI1); rintro e w2 ⟨hb2, v2, rfl, hI2⟩; have hx2 := hx1.below hb2; obtain ⟨k0, k1, k2, _⟩ := three_cells hx2.b0; obtain ⟨k3, k4, k5, _⟩ := three_cells hx2.b1)
      | (go_at_call 58; (with_reducible refine (HD2.out _ ?hx4).mono ?_); (case hx4 => exact hx2.1); rintro e w3 ⟨hb3, v3, rfl, hI3⟩; have hx3 := hx2.below hb3; obtain ⟨l0, l1, l2, _⟩ := three_cells hx3.b0; obtain ⟨l3, l4, l5, _⟩ := three_cells hx3.b1)
      | (go_at_call 97; (with_reducible refine (HM2.out _ _ ?hx5 ?hx6).mono ?_); (case hx5 => exact hx3.1); (case hx6 => exact hI3); rintro e w4 ⟨hb4, v4, rfl, hI4⟩; have hx4 := hx3.below hb4; obtain ⟨m0, m1, m2, _⟩ := three_cells hx4.b0; obtain ⟨m3, m4, m5, _⟩ := three_cells hx4.b1;
         obtain ⟨s2, u2, rfl, hs2, hn2⟩ := hI2; obtain ⟨ao2, k2', c2, rfl⟩ := hn2.form; obtain ⟨s4, u4, rfl, hs4, hn4⟩ := hI4; obtain ⟨ao4, k4', c4, rfl⟩ := hn4.form;
         obtain ⟨x0, x1, g0, g1⟩ := two_cells hx4.b2; obtain ⟨x2, x3, g2, g3⟩ := two_cells hx4.b3; have hsz := hx4.l4;
         have HE := Lib.hid (fun W' => int_end2 (L := LL) (L' := LL) (z := p * t) (z' := r * q) (w := w) (s := s2) (ao := ao2) (k := k2') (c := c2) (s' := s4) (ao' := ao4) (k' := k4') (c' := c4) hx4.b2 hx4.b3 (by omega) hx4.1 (by omega) (by omega) hs2 ((hn2.below hb3).below hb4) hs4 hn4 W'); clear hs2 hs4)))
  clear hb1 hb2 hb3 hb4 hx1 hx2 hx3 hx4 hn2 hn4 hI1 hI3
  go_wp2
  have hE := HE.out _ rfl
  exact bodyPost_ret (v := .tuple #[.agg #[.bool s2, .slice ao2 k2' c2], .agg #[.bool s4, .slice ao4 k4' c4]]) (by simp [results, Tryz.results122, go_sem, hE.2.2.2.1, hE.2.2.2.2.1, hE.2.2.2.2.2.1, hE.2.2.2.2.2.2]) rfl ⟨hE.1, _, _, rfl, hE.2.1, hE.2.2.1⟩
end Go.Proofs.YtblbheilddafbaaGreatDoor
