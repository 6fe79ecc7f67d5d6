/-
  Texts of the proof, merged by program: Awp Awc.
-/
import Derived.Test.YtdnheaafcbihbaaGreatV22
import Derived.Test.YtdnheaafcbihbaaGreatV21
import Derived.Test.YtdnheaafcbihbaaGreatV13
set_option linter.unusedVariables false
set_option linter.unusedSimpArgs false
namespace Go.Proofs.YtdnheaafcbihbaaGreat
open Go Go.RowKit Go.Deep
open FFld (ints)
/-! What package code's examples are by numbers. -/
theorem bm5 (g : Nat) (h : FFld.PK 5 1 5) : (FFld.padF (FFld.bmF ⟨5, 1, 5, g⟩ h [1, 2, 4, 3] 4).reg ((FFld.bmF ⟨5, 1, 5, g⟩ h [1, 2, 4, 3] 4).len + 1)).drop 1 = [3] := by kernel_rfl
theorem vals7 (g : Nat) : FFld.valsF ⟨7, 1, 7, g⟩ [1, 2] [0, 1, 2, 3, 4, 5] 6 = [1, 3, 5, 0, 2, 4] := by kernel_rfl
theorem tab7 (g : Nat) : ((List.range 7).all fun a => (List.range 7).all fun b => (Nat.blt 2 (disF (ints (FFld.valsF ⟨7, 1, 7, g⟩ [a, b] [0, 1, 2, 3, 4, 5] 6)) (ints [1, 3, 5, 0, 0, 0]) 6)) || (Nat.beq a 1 && Nat.beq b 2)) = true := by kernel_rfl
theorem far7 (g : Nat) : ((List.range 7).all fun a => (List.range 7).all fun b => (Nat.blt 2 (disF (ints (FFld.valsF ⟨7, 1, 7, g⟩ [a, b] [0, 1, 2, 3, 4, 5] 6)) (ints [1, 3, 6, 6, 0, 0]) 6))) = true := by kernel_rfl
theorem dis7 (g : Nat) : disF (ints (FFld.valsF ⟨7, 1, 7, g⟩ [1, 2] [0, 1, 2, 3, 4, 5] 6)) (ints [1, 3, 5, 0, 0, 0]) 6 = 2 := by kernel_rfl
theorem two_trm {P : List Nat} (h : FFld.Tz P) (hl : P.length ≤ 2) : ∃ a b, a = P[0]?.getD 0 ∧ b = P[1]?.getD 0 ∧ FFld.trm [a, b] = P := by
  refine ⟨_, _, rfl, rfl, ?_⟩
  match P, h, hl with
  | [], _, _ => rfl
  | [a], h, _ =>
    refine FFld.trm_is (n := 1) (by simp) (fun i hi => ?_) (.inr ?_)
    · rcases i with _ | _ | i
      · omega
      · rfl
      · rfl
    · rcases h with h | h
      · cases h
      · exact h
  | [a, b], h, _ =>
    refine FFld.trm_is (n := 2) (by simp) (fun i hi => ?_) (.inr ?_)
    · rcases i with _ | _ | i
      · omega
      · omega
      · rfl
    · rcases h with h | h
      · cases h
      · exact h
theorem vals_trm {D : FFld.FD} {P Q : List Nat} (h : FFld.trm P = Q) (tQ : FFld.Tz Q) (xs : List Nat) (i : Nat) : FFld.valsF D P xs i = FFld.valsF D Q xs i := by
  unfold FFld.valsF
  rw [h, FFld.trm_self tQ]
theorem near7 {g : Nat} {P : List Nat} (h : Near ⟨7, 1, 7, g⟩ [0, 1, 2, 3, 4, 5] [1, 3, 5, 0, 0, 0] 2 2 P) : P = [1, 2] := by
  obtain ⟨a, b, ha, hb, e⟩ := two_trm h.tz h.len
  have h1 : a < 7 := by rw [ha]; exact FFld.getD_lt (p := 7) (show 0 < 7 by decide) (fun x hx => h.lt x hx) 0
  have h2 : b < 7 := by rw [hb]; exact FFld.getD_lt (p := 7) (show 0 < 7 by decide) (fun x hx => h.lt x hx) 1
  have ht := tab7 g
  simp only [List.all_eq_true, List.mem_range] at ht
  have ht' := ht a h1 b h2
  have hd := h.dis
  rw [← vals_trm e h.tz] at hd
  rw [Bool.or_eq_true, Bool.and_eq_true, Nat.blt_eq] at ht'
  rcases ht' with h3 | ⟨h3, h4⟩
  · exact absurd hd (Nat.not_le.2 h3)
  · rw [← e, Nat.eq_of_beq_eq_true h3, Nat.eq_of_beq_eq_true h4]; rfl
theorem near7_is (g : Nat) : Near ⟨7, 1, 7, g⟩ [0, 1, 2, 3, 4, 5] [1, 3, 5, 0, 0, 0] 2 2 [1, 2] := ⟨show ∀ a ∈ [1, 2], a < 7 ^ 1 by decide, .inr (by decide), by decide, Nat.le_of_eq (dis7 g)⟩
theorem near7_no {g : Nat} {P : List Nat} (h : Near ⟨7, 1, 7, g⟩ [0, 1, 2, 3, 4, 5] [1, 3, 6, 6, 0, 0] 2 2 P) : False := by
  obtain ⟨a, b, ha, hb, e⟩ := two_trm h.tz h.len
  have h1 : a < 7 := by rw [ha]; exact FFld.getD_lt (p := 7) (show 0 < 7 by decide) (fun x hx => h.lt x hx) 0
  have h2 : b < 7 := by rw [hb]; exact FFld.getD_lt (p := 7) (show 0 < 7 by decide) (fun x hx => h.lt x hx) 1
  have ht := far7 g
  simp only [List.all_eq_true, List.mem_range] at ht
  have ht' := ht a h1 b h2
  have hd := h.dis
  rw [← vals_trm e h.tz] at hd
  rw [Nat.blt_eq] at ht'
  exact absurd hd (Nat.not_le.2 ht')
theorem q7 : ∃ g, FFld.FD.Ok ⟨7, 1, 7, g⟩ := FFld.FD.prime_exists 7 (FFld.prime_of (by decide)) (by decide)
theorem q5' : ∃ g, FFld.FD.Ok ⟨5, 1, 5, g⟩ := FFld.FD.prime_exists 5 (FFld.prime_of (by decide)) (by decide)
theorem caw_codeV {g : Nat} (hD : FFld.FD.Ok ⟨7, 1, 7, g⟩) : CodeV ⟨7, 1, 7, g⟩ [0, 1, 2, 3, 4, 5] 6 2 := CodeV.of hD rfl (by decide) (by decide) (by decide) (show ∀ a ∈ [0, 1, 2, 3, 4, 5], a < 7 ^ 1 by decide) (by decide)
theorem kpl6 (xs : List Nat) (h : xs.length = 6) : kpL [] 6 xs = xs := by
  unfold kpL
  rw [kp_nil]
  match xs, h with
  | [a, b, c, d, e, f], _ => rfl
theorem kpf6 : (kpF [] 6).length = 6 := rfl
abbrev pt6 (a : Option Addr) : Value := .agg #[.int .i64 7, .slice a 6 6, .int .i64 2]
theorem caw_dec (ax aw : Option Addr) (W : World) (hx : Sl .i64 W (.slice ax 6 6) [0, 1, 2, 3, 4, 5]) (hw : Sl .i64 W (.slice aw 6 6) [1, 3, 5, 0, 0, 0]) :
    Calls Tryz.prog 25 #[pt6 ax, .slice aw 6 6, nilv] W (fun e w' => Below W.heap.size W w' ∧ ∃ b o c, e = .returned (.tuple #[.slice (some ⟨b, o, none⟩) 6 c, .int .i64 0]) ∧ 6 ≤ c ∧ c ≤ maxLen ∧ w'.cell? ⟨b, o + 4, none⟩ = some (.int .i64 2)) := by
  obtain ⟨g, hD⟩ := q7
  have h := cdecode_any hD ax aw none 6 6 0 6 0 2 [0, 1, 2, 3, 4, 5] [1, 3, 5, 0, 0, 0] [] W hx hw (Sl.nil _ W) (caw_codeV hD) rfl rfl (show ∀ a ∈ [1, 3, 5, 0, 0, 0], a < 7 ^ 1 by decide) (by omega) rfl rfl
  rw [kpl6 _ rfl, kpl6 _ rfl] at h
  refine Calls.mono h ?_
  rintro e w' ⟨hb, ⟨Po, v, hN, rfl, hs⟩ | ⟨hno, _⟩⟩
  · obtain rfl := near7 hN
    rw [show ([0, 1, 2, 3, 4, 5] : List Nat).length = 6 from rfl, vals7] at hs
    obtain ⟨ao, c, rfl, hc, hm⟩ := hs.form
    obtain ⟨b, o, rfl, _, hcell⟩ := hs.news_ 4 (by decide)
    exact ⟨hb, b, o, c, rfl, hc, hm, hcell⟩
  · exact absurd (near7_is g) (hno _)
theorem caw_far (ax aw : Option Addr) (W : World) (hx : Sl .i64 W (.slice ax 6 6) [0, 1, 2, 3, 4, 5]) (hw : Sl .i64 W (.slice aw 6 6) [1, 3, 6, 6, 0, 0]) :
    Calls Tryz.prog 25 #[pt6 ax, .slice aw 6 6, nilv] W (fun e w' => Below W.heap.size W w' ∧ e = .returned (.tuple #[nilv, .int .i64 30])) := by
  obtain ⟨g, hD⟩ := q7
  have h := cdecode_any hD ax aw none 6 6 0 6 0 2 [0, 1, 2, 3, 4, 5] [1, 3, 6, 6, 0, 0] [] W hx hw (Sl.nil _ W) (caw_codeV hD) rfl rfl (show ∀ a ∈ [1, 3, 6, 6, 0, 0], a < 7 ^ 1 by decide) (by omega) rfl rfl
  rw [kpl6 _ rfl, kpl6 _ rfl] at h
  refine Calls.mono h ?_
  rintro e w' ⟨hb, ⟨Po, v, hN, rfl, hs⟩ | ⟨hno, rfl⟩⟩
  · exact (near7_no hN).elim
  · exact ⟨hb, rfl⟩
theorem caw_deny (ax aw : Option Addr) (W : World) (hx : Sl .i64 W (.slice ax 6 6) [0, 1, 2, 3, 4, 5]) (hw : Sl .i64 W (.slice aw 6 6) [1, 3, 6, 6, 0, 0]) :
    Calls Tryz.prog 26 #[pt6 ax, .slice aw 6 6, nilv] W (fun e w' => Below W.heap.size W w' ∧ ∃ (aq av : Option Addr) (nQ nE cq cv : Nat), e = .returned (.tuple #[.agg #[.slice aq nQ cq, .slice av nE cv], .bool true]) ∧ 1 ≤ nE ∧ nE ≤ 100 ∧ nQ ≤ 100) := by
  obtain ⟨g, hD⟩ := q7
  have h := cdeny_any hD ax aw none 6 6 0 6 0 2 [0, 1, 2, 3, 4, 5] [1, 3, 6, 6, 0, 0] [] W hx hw (Sl.nil _ W) (caw_codeV hD) rfl rfl (show ∀ a ∈ [1, 3, 6, 6, 0, 0], a < 7 ^ 1 by decide) (by omega) rfl rfl
  rw [kpl6 _ rfl, kpl6 _ rfl, kpf6] at h
  refine Calls.mono h ?_
  rintro e w' ⟨hb, ⟨vq, ve, Q, E, bf, el, hno, rfl, hq, he, hga, h1, h2⟩ | ⟨⟨Po, hN⟩, _⟩⟩
  · obtain ⟨aq, cq, rfl, _, _⟩ := hq.form
    obtain ⟨av, cv, rfl, _, _⟩ := he.form
    have h3 := hga.len
    have h4 := hga.up
    refine ⟨hb, aq, av, _, _, cq, cv, rfl, ?_, ?_, ?_⟩ <;> rw [FFld.ints_len] <;> omega
  · exact (near7_no hN).elim
theorem caw_reg (as_ : Option Addr) (W : World) (hs : Sl .i64 W (.slice as_ 4 4) [1, 2, 4, 3]) :
    Calls Tryz.prog 62 #[.int .i64 5, .slice as_ 4 4] W (fun e w' => Below W.heap.size W w' ∧ ∃ a c, e = .returned (.tuple #[.slice a 1 c, .int .i64 0])) := by
  obtain ⟨g, hD⟩ := q5'
  have h := cShortest_any hD as_ 4 4 [1, 2, 4, 3] W hs rfl (show ∀ a ∈ [1, 2, 4, 3], a < 5 ^ 1 by decide) (by omega)
  rw [bm5] at h
  refine Calls.mono h ?_
  rintro e w' ⟨hb, vt, rfl, ht⟩
  obtain ⟨a, c, rfl, _, _⟩ := ht.form
  exact ⟨hb, a, c, rfl⟩
end Go.Proofs.YtdnheaafcbihbaaGreat

set_option linter.unusedVariables false
set_option linter.unusedSimpArgs false
namespace Go.Proofs.YtdnheaafcbihbaaGreat
open Go Go.RowKit Go.Deep
open FFld (ints)
abbrev awX : Obj := .cells #[.int .i64 0, .int .i64 1, .int .i64 2, .int .i64 3, .int .i64 4, .int .i64 5] 3
abbrev awN : Obj := .cells #[.int .i64 1, .int .i64 3, .int .i64 5, .int .i64 0, .int .i64 0, .int .i64 0] 3
abbrev awF : Obj := .cells #[.int .i64 1, .int .i64 3, .int .i64 6, .int .i64 6, .int .i64 0, .int .i64 0] 3
abbrev awS : Obj := .cells #[.int .i64 1, .int .i64 2, .int .i64 4, .int .i64 3] 3
abbrev awC (g : Nat) : Obj := .cells #[.int .i64 7, .slice (some ⟨g, 0, none⟩) 6 6, .int .i64 2] 27
theorem row_six {W : World} {g : Nat} {a b c d e f : Int} (h : W.heap[g]? = some (.cells #[.int .i64 a, .int .i64 b, .int .i64 c, .int .i64 d, .int .i64 e, .int .i64 f] 3)) : Sl .i64 W (.slice (some ⟨g, 0, none⟩) 6 6) [a, b, c, d, e, f] :=
  Row.slAll (E := 3) (K := .i64) (xs := [a, b, c, d, e, f]) h (n := 6) (cap := 6) rfl (Nat.le_refl _) (by unfold maxLen; omega)
theorem row_four {W : World} {g : Nat} {a b c d : Int} (h : W.heap[g]? = some (.cells #[.int .i64 a, .int .i64 b, .int .i64 c, .int .i64 d] 3)) : Sl .i64 W (.slice (some ⟨g, 0, none⟩) 4 4) [a, b, c, d] :=
  Row.slAll (E := 3) (K := .i64) (xs := [a, b, c, d]) h (n := 4) (cap := 4) rfl (Nat.le_refl _) (by unfold maxLen; omega)
set_option maxRecDepth 20000 in
set_option maxHeartbeats 4000000 in
theorem cawake_any (w : World) : Calls Tryz.prog 22 #[] w (RB w (.bool true)) := by
  have HX0 : Kept (Bxs w [awX, awC w.heap.size, awN] (((w.alloc awX).alloc (awC w.heap.size)).alloc awN)) := ⟨(((Bxs.start w).alloc (by simp) _).alloc (by simp) _).alloc (by simp) _⟩
  have HD1 := Kept.mk (caw_dec (some ⟨w.heap.size, 0, none⟩) (some ⟨w.heap.size + 2, 0, none⟩) _ (row_six HX0.out.b0) (row_six (HX0.out.2.2 2 _ rfl)))
  go_enter Tryz.func22, Tryz.ntmps22
  obtain ⟨c0, c1, c2, _⟩ := three_cells HX0.out.b1
  go_wp2_with fail
  (with_reducible refine HD1.out.mono ?_)
  rintro e w1 ⟨hb1, b, o, c, rfl, hc6, hcm, hcell⟩
  have HX1 := Kept.mk ((HX0.out.below hb1).below ((Below.refl _ _).alloc (Nat.le_refl _) awF))
  have hr1 := heap_alloc_new w1 awF
  have q1 := belowCell ((Below.refl _ _).alloc (Nat.le_refl _) awF) hcell
  have HD2 := Kept.mk (caw_far (some ⟨w.heap.size, 0, none⟩) (some ⟨w1.heap.size, 0, none⟩) _ (row_six HX1.out.b0) (row_six hr1))
  clear c0 c1 c2
  obtain ⟨c0, c1, c2, _⟩ := three_cells (HX0.out.below hb1).b1
  clear hb1 hcell hr1 HX0 HD1
  go_wp2_with fail
  (with_reducible refine HD2.out.mono ?_)
  rintro e w2 ⟨hb2, rfl⟩
  have HX2 := Kept.mk ((HX1.out.below hb2).below ((Below.refl _ _).alloc (Nat.le_refl _) awF))
  have hr2 := heap_alloc_new w2 awF
  have q2 := belowCell ((Below.refl _ _).alloc (Nat.le_refl _) awF) (belowCell hb2 q1)
  have HD3 := Kept.mk (caw_deny (some ⟨w.heap.size, 0, none⟩) (some ⟨w2.heap.size, 0, none⟩) _ (row_six HX2.out.b0) (row_six hr2))
  clear c0 c1 c2
  obtain ⟨c0, c1, c2, _⟩ := three_cells (HX1.out.below hb2).b1
  clear hb2 hr2 HX1 HD2 q1
  go_wp2_with fail
  (with_reducible refine HD3.out.mono ?_)
  rintro e w3 ⟨hb3, aq, av, nQ, nE, cq, cv, rfl, hn1, hn2, hn3⟩
  have hal : Below w3.heap.size w3 ((w3.alloc (fabox (.slice aq nQ cq) (.slice av nE cv))).alloc awS) := ((Below.refl _ _).alloc (Nat.le_refl _) _).alloc (by simp) _
  have HX3 := Kept.mk ((HX2.out.below hb3).below hal)
  have hr3 := heap_alloc_new (w3.alloc (fabox (.slice aq nQ cq) (.slice av nE cv))) awS
  have hfb := heap_alloc_new w3 (fabox (.slice aq nQ cq) (.slice av nE cv))
  have q3 := belowCell hal (belowCell hb3 q2)
  have hes : (w3.alloc (fabox (.slice aq nQ cq) (.slice av nE cv))).heap.size = w3.heap.size + 1 := by simp
  rw [hes] at hr3
  have hfb2 := (heap_alloc_old (w3.alloc (fabox (.slice aq nQ cq) (.slice av nE cv))) awS (show w3.heap.size < (w3.alloc (fabox (.slice aq nQ cq) (.slice av nE cv))).heap.size by rw [hes]; omega)).trans hfb
  have HD4 := Kept.mk (caw_reg (some ⟨w3.heap.size + 1, 0, none⟩) _ (row_four hr3))
  clear hb3 hr3 hfb hal c0 c1 c2 HX2 HD3 q2 hes
  go_wp2_with fail
  (with_reducible refine HD4.out.mono ?_)
  rintro e w4 ⟨hb4, ta, tc, rfl⟩
  have HB4 := Kept.mk (HX3.out.below hb4).1
  have hfb3 := (hb4.block _ (Array.getElem?_eq_some_iff.1 hfb2).1).trans hfb2
  obtain ⟨f0, f1, _, _⟩ := two_cells hfb3
  have q4 := belowCell hb4 q3
  have g1 : decide ((0 : Int) < (nQ : Int) + (nE : Int)) = true := decide_eq_true (by omega)
  clear hb4 hfb2 hfb3 q3 HD4 HX3
  go_wp2
  go_ret
  exact ⟨HB4.out, rfl⟩
end Go.Proofs.YtdnheaafcbihbaaGreat
