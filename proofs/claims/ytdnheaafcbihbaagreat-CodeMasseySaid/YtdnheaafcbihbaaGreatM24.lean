/-
  Texts of the proof, merged by program: Awp Awc Law Lms.
-/
import Derived.Test.YtdnheaafcbihbaaGreatM23
import Derived.Test.YtdnheaafcbihbaaGreatM19
import Derived.Test.YtdnheaafcbihbaaGreatM13
import Derived.Test.YtdnheaafcbihbaaGreatM22
import Derived.Test.YtdnheaafcbihbaaGreatM7
set_option linter.unusedVariables false
set_option linter.unusedSimpArgs false
namespace Go.Proofs.YtdnheaafcbihbaaGreat
open Go Go.RowKit Go.Deep
open FFld (ints)
/-! What package code's examples are by numbers. -/
theorem bm5 (g : Nat) (h : FFld.PK 5 1 5) : (FFld.padF (FFld.bmF ⟨5, 1, 5, g⟩ h [1, 2, 4, 3] 4).reg ((FFld.bmF ⟨5, 1, 5, g⟩ h [1, 2, 4, 3] 4).len + 1)).drop 1 = [3] := by kernel_rfl
theorem vals7 (g : Nat) : FFld.valsF ⟨7, 1, 7, g⟩ [1, 2] [0, 1, 2, 3, 4, 5] 6 = [1, 3, 5, 0, 2, 4] := by kernel_rfl
theorem tab7 (g : Nat) : ((List.range 7).all fun a => (List.range 7).all fun b => (Nat.blt 2 (disF (ints (FFld.valsF ⟨7, 1, 7, g⟩ [a, b] [0, 1, 2, 3, 4, 5] 6)) (ints [1, 3, 5, 0, 0, 0]) 6)) || (Nat.beq a 1 && Nat.beq b 2)) = true := by kernel_rfl
theorem far7 (g : Nat) : ((List.range 7).all fun a => (List.range 7).all fun b => (Nat.blt 2 (disF (ints (FFld.valsF ⟨7, 1, 7, g⟩ [a, b] [0, 1, 2, 3, 4, 5] 6)) (ints [1, 3, 6, 6, 0, 0]) 6))) = true := by kernel_rfl
theorem dis7 (g : Nat) : disF (ints (FFld.valsF ⟨7, 1, 7, g⟩ [1, 2] [0, 1, 2, 3, 4, 5] 6)) (ints [1, 3, 5, 0, 0, 0]) 6 = 2 := by kernel_rfl
theorem two_trm {P : List Nat} (h : FFld.Tz P) (hl : P.length ≤ 2) : ∃ a b, a = P[0]?.getD 0 ∧ b = P[1]?.getD 0 ∧ FFld.trm [a, b] = P := by
  refine ⟨_, _, rfl, rfl, ?_⟩
  match P, h, hl with
  | [], _, _ => rfl
  | [a], h, _ =>
    refine FFld.trm_is (n := 1) (by simp) (fun i hi => ?_) (.inr ?_)
    · rcases i with _ | _ | i
      · omega
      · rfl
      · rfl
    · rcases h with h | h
      · cases h
      · exact h
  | [a, b], h, _ =>
    refine FFld.trm_is (n := 2) (by simp) (fun i hi => ?_) (.inr ?_)
    · rcases i with _ | _ | i
      · omega
      · omega
      · rfl
    · rcases h with h | h
      · cases h
      · exact h
theorem vals_trm {D : FFld.FD} {P Q : List Nat} (h : FFld.trm P = Q) (tQ : FFld.Tz Q) (xs : List Nat) (i : Nat) : FFld.valsF D P xs i = FFld.valsF D Q xs i := by
  unfold FFld.valsF
  rw [h, FFld.trm_self tQ]
theorem near7 {g : Nat} {P : List Nat} (h : Near ⟨7, 1, 7, g⟩ [0, 1, 2, 3, 4, 5] [1, 3, 5, 0, 0, 0] 2 2 P) : P = [1, 2] := by
  obtain ⟨a, b, ha, hb, e⟩ := two_trm h.tz h.len
  have h1 : a < 7 := by rw [ha]; exact FFld.getD_lt (p := 7) (show 0 < 7 by decide) (fun x hx => h.lt x hx) 0
  have h2 : b < 7 := by rw [hb]; exact FFld.getD_lt (p := 7) (show 0 < 7 by decide) (fun x hx => h.lt x hx) 1
  have ht := tab7 g
  simp only [List.all_eq_true, List.mem_range] at ht
  have ht' := ht a h1 b h2
  have hd := h.dis
  rw [← vals_trm e h.tz] at hd
  rw [Bool.or_eq_true, Bool.and_eq_true, Nat.blt_eq] at ht'
  rcases ht' with h3 | ⟨h3, h4⟩
  · exact absurd hd (Nat.not_le.2 h3)
  · rw [← e, Nat.eq_of_beq_eq_true h3, Nat.eq_of_beq_eq_true h4]; rfl
theorem near7_is (g : Nat) : Near ⟨7, 1, 7, g⟩ [0, 1, 2, 3, 4, 5] [1, 3, 5, 0, 0, 0] 2 2 [1, 2] := ⟨show ∀ a ∈ [1, 2], a < 7 ^ 1 by decide, .inr (by decide), by decide, Nat.le_of_eq (dis7 g)⟩
theorem near7_no {g : Nat} {P : List Nat} (h : Near ⟨7, 1, 7, g⟩ [0, 1, 2, 3, 4, 5] [1, 3, 6, 6, 0, 0] 2 2 P) : False := by
  obtain ⟨a, b, ha, hb, e⟩ := two_trm h.tz h.len
  have h1 : a < 7 := by rw [ha]; exact FFld.getD_lt (p := 7) (show 0 < 7 by decide) (fun x hx => h.lt x hx) 0
  have h2 : b < 7 := by rw [hb]; exact FFld.getD_lt (p := 7) (show 0 < 7 by decide) (fun x hx => h.lt x hx) 1
  have ht := far7 g
  simp only [List.all_eq_true, List.mem_range] at ht
  have ht' := ht a h1 b h2
  have hd := h.dis
  rw [← vals_trm e h.tz] at hd
  rw [Nat.blt_eq] at ht'
  exact absurd hd (Nat.not_le.2 ht')
theorem q7 : ∃ g, FFld.FD.Ok ⟨7, 1, 7, g⟩ := FFld.FD.prime_exists 7 (FFld.prime_of (by decide)) (by decide)
theorem q5' : ∃ g, FFld.FD.Ok ⟨5, 1, 5, g⟩ := FFld.FD.prime_exists 5 (FFld.prime_of (by decide)) (by decide)
theorem caw_codeV {g : Nat} (hD : FFld.FD.Ok ⟨7, 1, 7, g⟩) : CodeV ⟨7, 1, 7, g⟩ [0, 1, 2, 3, 4, 5] 6 2 := CodeV.of hD rfl (by decide) (by decide) (by decide) (show ∀ a ∈ [0, 1, 2, 3, 4, 5], a < 7 ^ 1 by decide) (by decide)
theorem kpl6 (xs : List Nat) (h : xs.length = 6) : kpL [] 6 xs = xs := by
  unfold kpL
  rw [kp_nil]
  match xs, h with
  | [a, b, c, d, e, f], _ => rfl
theorem kpf6 : (kpF [] 6).length = 6 := rfl
abbrev pt6 (a : Option Addr) : Value := .agg #[.int .i64 7, .slice a 6 6, .int .i64 2]
theorem caw_dec (ax aw : Option Addr) (W : World) (hx : Sl .i64 W (.slice ax 6 6) [0, 1, 2, 3, 4, 5]) (hw : Sl .i64 W (.slice aw 6 6) [1, 3, 5, 0, 0, 0]) :
    Calls Tryz.prog 25 #[pt6 ax, .slice aw 6 6, nilv] W (fun e w' => Below W.heap.size W w' ∧ ∃ b o c, e = .returned (.tuple #[.slice (some ⟨b, o, none⟩) 6 c, .int .i64 0]) ∧ 6 ≤ c ∧ c ≤ maxLen ∧ w'.cell? ⟨b, o + 4, none⟩ = some (.int .i64 2)) := by
  obtain ⟨g, hD⟩ := q7
  have h := cdecode_any hD ax aw none 6 6 0 6 0 2 [0, 1, 2, 3, 4, 5] [1, 3, 5, 0, 0, 0] [] W hx hw (Sl.nil _ W) (caw_codeV hD) rfl rfl (show ∀ a ∈ [1, 3, 5, 0, 0, 0], a < 7 ^ 1 by decide) (by omega) rfl rfl
  rw [kpl6 _ rfl, kpl6 _ rfl] at h
  refine Calls.mono h ?_
  rintro e w' ⟨hb, ⟨Po, v, hN, rfl, hs⟩ | ⟨hno, _⟩⟩
  · obtain rfl := near7 hN
    rw [show ([0, 1, 2, 3, 4, 5] : List Nat).length = 6 from rfl, vals7] at hs
    obtain ⟨ao, c, rfl, hc, hm⟩ := hs.form
    obtain ⟨b, o, rfl, _, hcell⟩ := hs.news_ 4 (by decide)
    exact ⟨hb, b, o, c, rfl, hc, hm, hcell⟩
  · exact absurd (near7_is g) (hno _)
theorem caw_far (ax aw : Option Addr) (W : World) (hx : Sl .i64 W (.slice ax 6 6) [0, 1, 2, 3, 4, 5]) (hw : Sl .i64 W (.slice aw 6 6) [1, 3, 6, 6, 0, 0]) :
    Calls Tryz.prog 25 #[pt6 ax, .slice aw 6 6, nilv] W (fun e w' => Below W.heap.size W w' ∧ e = .returned (.tuple #[nilv, .int .i64 30])) := by
  obtain ⟨g, hD⟩ := q7
  have h := cdecode_any hD ax aw none 6 6 0 6 0 2 [0, 1, 2, 3, 4, 5] [1, 3, 6, 6, 0, 0] [] W hx hw (Sl.nil _ W) (caw_codeV hD) rfl rfl (show ∀ a ∈ [1, 3, 6, 6, 0, 0], a < 7 ^ 1 by decide) (by omega) rfl rfl
  rw [kpl6 _ rfl, kpl6 _ rfl] at h
  refine Calls.mono h ?_
  rintro e w' ⟨hb, ⟨Po, v, hN, rfl, hs⟩ | ⟨hno, rfl⟩⟩
  · exact (near7_no hN).elim
  · exact ⟨hb, rfl⟩
theorem caw_deny (ax aw : Option Addr) (W : World) (hx : Sl .i64 W (.slice ax 6 6) [0, 1, 2, 3, 4, 5]) (hw : Sl .i64 W (.slice aw 6 6) [1, 3, 6, 6, 0, 0]) :
    Calls Tryz.prog 26 #[pt6 ax, .slice aw 6 6, nilv] W (fun e w' => Below W.heap.size W w' ∧ ∃ (aq av : Option Addr) (nQ nE cq cv : Nat), e = .returned (.tuple #[.agg #[.slice aq nQ cq, .slice av nE cv], .bool true]) ∧ 1 ≤ nE ∧ nE ≤ 100 ∧ nQ ≤ 100) := by
  obtain ⟨g, hD⟩ := q7
  have h := cdeny_any hD ax aw none 6 6 0 6 0 2 [0, 1, 2, 3, 4, 5] [1, 3, 6, 6, 0, 0] [] W hx hw (Sl.nil _ W) (caw_codeV hD) rfl rfl (show ∀ a ∈ [1, 3, 6, 6, 0, 0], a < 7 ^ 1 by decide) (by omega) rfl rfl
  rw [kpl6 _ rfl, kpl6 _ rfl, kpf6] at h
  refine Calls.mono h ?_
  rintro e w' ⟨hb, ⟨vq, ve, Q, E, bf, el, hno, rfl, hq, he, hga, h1, h2⟩ | ⟨⟨Po, hN⟩, _⟩⟩
  · obtain ⟨aq, cq, rfl, _, _⟩ := hq.form
    obtain ⟨av, cv, rfl, _, _⟩ := he.form
    have h3 := hga.len
    have h4 := hga.up
    refine ⟨hb, aq, av, _, _, cq, cv, rfl, ?_, ?_, ?_⟩ <;> rw [FFld.ints_len] <;> omega
  · exact (near7_no hN).elim
theorem caw_reg (as_ : Option Addr) (W : World) (hs : Sl .i64 W (.slice as_ 4 4) [1, 2, 4, 3]) :
    Calls Tryz.prog 62 #[.int .i64 5, .slice as_ 4 4] W (fun e w' => Below W.heap.size W w' ∧ ∃ a c, e = .returned (.tuple #[.slice a 1 c, .int .i64 0])) := by
  obtain ⟨g, hD⟩ := q5'
  have h := cShortest_any hD as_ 4 4 [1, 2, 4, 3] W hs rfl (show ∀ a ∈ [1, 2, 4, 3], a < 5 ^ 1 by decide) (by omega)
  rw [bm5] at h
  refine Calls.mono h ?_
  rintro e w' ⟨hb, vt, rfl, ht⟩
  obtain ⟨a, c, rfl, _, _⟩ := ht.form
  exact ⟨hb, a, c, rfl⟩
end Go.Proofs.YtdnheaafcbihbaaGreat

set_option linter.unusedVariables false
set_option linter.unusedSimpArgs false
namespace Go.Proofs.YtdnheaafcbihbaaGreat
open Go Go.RowKit Go.Deep
open FFld (ints)
abbrev awX : Obj := .cells #[.int .i64 0, .int .i64 1, .int .i64 2, .int .i64 3, .int .i64 4, .int .i64 5] 3
abbrev awN : Obj := .cells #[.int .i64 1, .int .i64 3, .int .i64 5, .int .i64 0, .int .i64 0, .int .i64 0] 3
abbrev awF : Obj := .cells #[.int .i64 1, .int .i64 3, .int .i64 6, .int .i64 6, .int .i64 0, .int .i64 0] 3
abbrev awS : Obj := .cells #[.int .i64 1, .int .i64 2, .int .i64 4, .int .i64 3] 3
abbrev awC (g : Nat) : Obj := .cells #[.int .i64 7, .slice (some ⟨g, 0, none⟩) 6 6, .int .i64 2] 27
theorem row_six {W : World} {g : Nat} {a b c d e f : Int} (h : W.heap[g]? = some (.cells #[.int .i64 a, .int .i64 b, .int .i64 c, .int .i64 d, .int .i64 e, .int .i64 f] 3)) : Sl .i64 W (.slice (some ⟨g, 0, none⟩) 6 6) [a, b, c, d, e, f] :=
  Row.slAll (E := 3) (K := .i64) (xs := [a, b, c, d, e, f]) h (n := 6) (cap := 6) rfl (Nat.le_refl _) (by unfold maxLen; omega)
theorem row_four {W : World} {g : Nat} {a b c d : Int} (h : W.heap[g]? = some (.cells #[.int .i64 a, .int .i64 b, .int .i64 c, .int .i64 d] 3)) : Sl .i64 W (.slice (some ⟨g, 0, none⟩) 4 4) [a, b, c, d] :=
  Row.slAll (E := 3) (K := .i64) (xs := [a, b, c, d]) h (n := 4) (cap := 4) rfl (Nat.le_refl _) (by unfold maxLen; omega)
set_option maxRecDepth 20000 in
set_option maxHeartbeats 4000000 in
theorem cawake_any (w : World) : Calls Tryz.prog 22 #[] w (RB w (.bool true)) := by
  have HX0 : Kept (Bxs w [awX, awC w.heap.size, awN] (((w.alloc awX).alloc (awC w.heap.size)).alloc awN)) := ⟨(((Bxs.start w).alloc (by simp) _).alloc (by simp) _).alloc (by simp) _⟩
  have HD1 := Kept.mk (caw_dec (some ⟨w.heap.size, 0, none⟩) (some ⟨w.heap.size + 2, 0, none⟩) _ (row_six HX0.out.b0) (row_six (HX0.out.2.2 2 _ rfl)))
  go_enter Tryz.func22, Tryz.ntmps22
  obtain ⟨c0, c1, c2, _⟩ := three_cells HX0.out.b1
  go_wp2_with fail
  (with_reducible refine HD1.out.mono ?_)
  rintro e w1 ⟨hb1, b, o, c, rfl, hc6, hcm, hcell⟩
  have HX1 := Kept.mk ((HX0.out.below hb1).below ((Below.refl _ _).alloc (Nat.le_refl _) awF))
  have hr1 := heap_alloc_new w1 awF
  have q1 := belowCell ((Below.refl _ _).alloc (Nat.le_refl _) awF) hcell
  have HD2 := Kept.mk (caw_far (some ⟨w.heap.size, 0, none⟩) (some ⟨w1.heap.size, 0, none⟩) _ (row_six HX1.out.b0) (row_six hr1))
  clear c0 c1 c2
  obtain ⟨c0, c1, c2, _⟩ := three_cells (HX0.out.below hb1).b1
  clear hb1 hcell hr1 HX0 HD1
  go_wp2_with fail
  (with_reducible refine HD2.out.mono ?_)
  rintro e w2 ⟨hb2, rfl⟩
  have HX2 := Kept.mk ((HX1.out.below hb2).below ((Below.refl _ _).alloc (Nat.le_refl _) awF))
  have hr2 := heap_alloc_new w2 awF
  have q2 := belowCell ((Below.refl _ _).alloc (Nat.le_refl _) awF) (belowCell hb2 q1)
  have HD3 := Kept.mk (caw_deny (some ⟨w.heap.size, 0, none⟩) (some ⟨w2.heap.size, 0, none⟩) _ (row_six HX2.out.b0) (row_six hr2))
  clear c0 c1 c2
  obtain ⟨c0, c1, c2, _⟩ := three_cells (HX1.out.below hb2).b1
  clear hb2 hr2 HX1 HD2 q1
  go_wp2_with fail
  (with_reducible refine HD3.out.mono ?_)
  rintro e w3 ⟨hb3, aq, av, nQ, nE, cq, cv, rfl, hn1, hn2, hn3⟩
  have hal : Below w3.heap.size w3 ((w3.alloc (fabox (.slice aq nQ cq) (.slice av nE cv))).alloc awS) := ((Below.refl _ _).alloc (Nat.le_refl _) _).alloc (by simp) _
  have HX3 := Kept.mk ((HX2.out.below hb3).below hal)
  have hr3 := heap_alloc_new (w3.alloc (fabox (.slice aq nQ cq) (.slice av nE cv))) awS
  have hfb := heap_alloc_new w3 (fabox (.slice aq nQ cq) (.slice av nE cv))
  have q3 := belowCell hal (belowCell hb3 q2)
  have hes : (w3.alloc (fabox (.slice aq nQ cq) (.slice av nE cv))).heap.size = w3.heap.size + 1 := by simp
  rw [hes] at hr3
  have hfb2 := (heap_alloc_old (w3.alloc (fabox (.slice aq nQ cq) (.slice av nE cv))) awS (show w3.heap.size < (w3.alloc (fabox (.slice aq nQ cq) (.slice av nE cv))).heap.size by rw [hes]; omega)).trans hfb
  have HD4 := Kept.mk (caw_reg (some ⟨w3.heap.size + 1, 0, none⟩) _ (row_four hr3))
  clear hb3 hr3 hfb hal c0 c1 c2 HX2 HD3 q2 hes
  go_wp2_with fail
  (with_reducible refine HD4.out.mono ?_)
  rintro e w4 ⟨hb4, ta, tc, rfl⟩
  have HB4 := Kept.mk (HX3.out.below hb4).1
  have hfb3 := (hb4.block _ (Array.getElem?_eq_some_iff.1 hfb2).1).trans hfb2
  obtain ⟨f0, f1, _, _⟩ := two_cells hfb3
  have q4 := belowCell hb4 q3
  have g1 : decide ((0 : Int) < (nQ : Int) + (nE : Int)) = true := decide_eq_true (by omega)
  clear hb4 hfb2 hfb3 q3 HD4 HX3
  go_wp2
  go_ret
  exact ⟨HB4.out, rfl⟩
end Go.Proofs.YtdnheaafcbihbaaGreat

set_option linter.unusedVariables false
set_option linter.unusedSimpArgs false
namespace Go.Proofs.YtdnheaafcbihbaaGreat
open Go Go.RowKit Go.Deep
open FFld (ints)
/-- What a law has of its code, in memory. -/
structure LwAt (w : World) (D : FFld.FD) (va : Option Addr) (m vc k : Nat) (xs : List Nat) (g7 g8 : Nat) (W : World) : Prop where
  bel : Below w.heap.size w W
  b7 : W.heap[g7]? = some (rcdbox D.q va m vc k)
  b8 : W.heap[g8]? = some (cdbox D.q va m vc k)
  sl : Sl .i64 W (.slice va m vc) (ints xs)
/-- A call that makes a slice: its parts have names. -/
def RetP (w : World) (l : List Nat) (n : Nat) (e : Ending) (w' : World) : Prop := Below w.heap.size w w' ∧ ∃ (va : Option Addr) (vc : Nat), e = .returned (.slice va n vc) ∧ Mine 3 .i64 w.heap.size w' (.slice va n vc) (ints l)
theorem RetM.parts {w : World} {l : List Nat} {n : Nat} {e : Ending} {w' : World} (h : RetM w (ints l) e w') (hn : l.length = n) : RetP w l n e w' := by
  obtain ⟨hb, v, rfl, hm⟩ := h
  obtain ⟨va, vc, rfl, _⟩ := hm.sl
  rw [FFld.ints_len, hn] at hm ⊢
  exact ⟨hb, va, vc, rfl, hm⟩
end Go.Proofs.YtdnheaafcbihbaaGreat

set_option linter.unusedVariables false
set_option linter.unusedSimpArgs false
namespace Go.Proofs.YtdnheaafcbihbaaGreat
open Go Go.RowKit Go.Deep
open FFld (ints)
theorem sl_take {w : World} {ao : Option Addr} {n cap k : Nat} {xs : List Int} (h : Sl .i64 w (.slice ao n cap) xs) (hk : k ≤ xs.length) : Sl .i64 w (.slice ao k k) (xs.take k) := by
  obtain ⟨ao', cap', e, hc, hm, hx⟩ := h
  simp only [Value.slice.injEq] at e
  obtain ⟨rfl, _, rfl⟩ := e
  exact Sl.cut_of hk (by omega) hx
set_option maxRecDepth 20000 in
set_option maxHeartbeats 16000000 in
theorem codeMassey_any (a0 : Int) (v1 : Value) (xs1 : List Int) (w : World) (h0 : -9223372036854775808 ≤ a0) (h1 : a0 ≤ 9223372036854775807) (s1 : Sl .i64 w v1 xs1) (w1 : I64s xs1) :
    Calls Tryz.prog 15 #[.int .i64 a0, v1] w (RB w (.bool true)) := by
  obtain ⟨a1, c1, rfl, hn1, hm1⟩ := s1.form
  obtain ⟨n1, hn⟩ : ∃ x, xs1.length = x := ⟨_, rfl⟩
  rw [hn] at s1 hn1 ⊢
  unfold maxLen at hm1
  obtain ⟨n, hne⟩ : ∃ x, min n1 60 = x := ⟨_, rfl⟩
  have em1 : min (n1 : Int) 60 = (n : Nat) := by omega
  have hn60 : n ≤ 60 := by omega
  clear hne
  have HAW := Kept.mk (fun W => cawake_any W)
  have HOD := Kept.mk (order3_any a0 300 w h0 h1)
  have HEL : Kept (∀ W (q : Nat), Below w.heap.size w W → 1 ≤ q → q ≤ 300 → Calls Tryz.prog 37 #[.int .i64 q, .slice a1 n1 c1, .int .i64 (n : Nat)] W (RetP W (elL q xs1 n) n)) := ⟨fun W q hW hq1 hq3 => (elements_any q n (.slice a1 n1 c1) xs1 W (s1.below hW) w1 hq1 (by omega) (by omega)).mono fun e w' h => h.parts (elL_len _ _ _)⟩
  clear h0 h1 s1 w1 hn
  go_enter Tryz.func15, Tryz.ntmps15
  go_wp2_with fail
  (with_reducible refine HOD.out.mono ?_)
  rintro e w1 ⟨hb1, D, hD, hq, rfl⟩
  have HB1 := Kept.mk hb1
  have HD := Kept.mk hD
  have hq3 : D.q ≤ 300 := by omega
  have hq1 : 1 ≤ D.q := Nat.le_of_lt hD.pre.pk.one_lt
  obtain ⟨sl, hsl⟩ : ∃ l, elL D.q xs1 n = l := ⟨_, rfl⟩
  have HSN : Kept (sl.length = n) := ⟨by rw [← hsl]; exact elL_len _ _ _⟩
  have HSQ : Kept (∀ a ∈ sl, a < D.p ^ D.k) := ⟨by rw [← hsl]; exact elL_lt (q := D.q) hq1 _ _⟩
  have HE1 : Kept (Calls Tryz.prog 37 #[.int .i64 D.q, .slice a1 n1 c1, .int .i64 (n : Nat)] w1 (RetP w1 sl n)) := ⟨by rw [← hsl]; exact HEL.out w1 D.q hb1 hq1 hq3⟩
  clear hb1 hq hsl HEL HOD hD
  go_wp2_with fail
  (with_reducible refine HE1.out.mono ?_)
  rintro e w2 ⟨hb2, la, lc, rfl, hml⟩
  have HB2 := Kept.mk (bstep HB1.out hb2)
  have HL2 := Kept.mk hml.sl
  obtain ⟨hlc1, hlc2⟩ : n ≤ lc ∧ lc ≤ maxLen := by
    obtain ⟨_, _, e, h1, h2, _⟩ := hml.sl
    simp only [Value.slice.injEq] at e
    obtain ⟨_, h3, h4⟩ := e
    rw [← h3, ← h4] at h1
    exact ⟨h1, by rw [h4]; exact h2⟩
  unfold maxLen at hlc2
  clear hb2 hml HE1 HB1
  -- what the search finds
  obtain ⟨Lf, hLf⟩ : ∃ f : Nat → Nat, (fun i => (FFld.bmF D HD.out.pre.pk sl i).len) = f := ⟨_, rfl⟩
  have hLi : ∀ i, (FFld.bmF D HD.out.pre.pk sl i).len = Lf i := fun i => congrFun hLf i
  have HLI : Kept (∀ i, Lf i ≤ i) := ⟨fun i => by rw [← hLi]; exact (FFld.bm_ok HD.out.pre.pk sl i).li⟩
  have HL0 : Kept (Lf 0 = 0) := ⟨by rw [← hLi]; rfl⟩
  obtain ⟨pl, hpl⟩ : ∃ l, (FFld.bmF D HD.out.pre.pk sl n).prof = l := ⟨_, rfl⟩
  have HPN : Kept (pl.length = n) := ⟨by rw [← hpl]; exact (FFld.bm_ok HD.out.pre.pk sl n).pl⟩
  have HPI : Kept (∀ i, i < n → pl[i]?.getD 0 = Lf (i + 1)) := ⟨fun i hi => by rw [← hpl, FFld.bm_prof HD.out.pre.pk sl n i hi, hLi]⟩
  have HNX : Kept (∀ i, Lf (i + 1) = Lf i ∨ (2 * Lf i ≤ i ∧ Lf (i + 1) = i + 1 - Lf i ∧ mkP D (bmT D HD.out.pre.pk sl i) (sl.take (i + 1)) (i + 1) = false)) := ⟨fun i => by
    rcases FFld.bm_next HD.out.pre.pk sl i with h | ⟨h1, h2, h3⟩
    · left
      rw [hLi, hLi] at h
      exact h
    · right
      rw [hLi] at h1 h2
      rw [hLi] at h2
      exact ⟨h1, h2, bm_fails HD.out HSQ.out i h3⟩⟩
  have HTL : Kept (∀ i, (bmT D HD.out.pre.pk sl i).length = Lf i) := ⟨fun i => by rw [bmT_len HD.out, hLi]⟩
  have HTQ := Kept.mk (fun i => bmT_lt HD.out sl i)
  have HMK := Kept.mk (bm_makes HD.out HSQ.out n)
  have HSH : Kept (∀ W i, i ≤ n → Sl .i64 W (.slice la n lc) (ints sl) → Calls Tryz.prog 62 #[.int .i64 D.q, .slice la i i] W (fun e w' => Below W.heap.size W w' ∧ ∃ (ta : Option Addr) (tc : Nat), e = .returned (.tuple #[.slice ta (Lf i) tc, .int .i64 0]) ∧ Sl .i64 w' (.slice ta (Lf i) tc) (ints (bmT D HD.out.pre.pk sl i)))) := ⟨fun W i hi hs => by
    have hs' := sl_take hs (k := i) (by rw [FFld.ints_len, HSN.out]; exact hi)
    rw [← ints_take] at hs'
    refine (cShortest_any HD.out la i i (sl.take i) W hs' (by rw [List.length_take, HSN.out]; omega) (fun a ha => HSQ.out a (List.mem_of_mem_take ha)) (by omega)).mono fun e w' h => ?_
    obtain ⟨hb, vt, rfl, ht⟩ := h
    have ht' : Sl .i64 w' vt (ints (bmT D HD.out.pre.pk (sl.take i) i)) := ht
    rw [bmT_take HD.out i (Nat.le_refl _)] at ht'
    obtain ⟨ta, tc, rfl, _, _⟩ := ht'.form
    rw [FFld.ints_len, HTL.out] at ht' ⊢
    exact ⟨hb, ta, tc, rfl, ht'⟩⟩
  have HSA : Kept (∀ W, Sl .i64 W (.slice la n lc) (ints sl) → Calls Tryz.prog 62 #[.int .i64 D.q, .slice la n lc] W (fun e w' => Below W.heap.size W w' ∧ ∃ (ta : Option Addr) (tc : Nat), e = .returned (.tuple #[.slice ta (Lf n) tc, .int .i64 0]) ∧ Sl .i64 w' (.slice ta (Lf n) tc) (ints (bmT D HD.out.pre.pk sl n)))) := ⟨fun W hs => by
    refine (cShortest_any HD.out la lc n sl W hs HSN.out HSQ.out (by omega)).mono fun e w' h => ?_
    obtain ⟨hb, vt, rfl, ht⟩ := h
    have ht' : Sl .i64 w' vt (ints (bmT D HD.out.pre.pk sl n)) := ht
    obtain ⟨ta, tc, rfl, _, _⟩ := ht'.form
    rw [FFld.ints_len, HTL.out] at ht' ⊢
    exact ⟨hb, ta, tc, rfl, ht'⟩⟩
  have HPR : Kept (∀ W, Sl .i64 W (.slice la n lc) (ints sl) → Calls Tryz.prog 63 #[.int .i64 D.q, .slice la n lc] W (fun e w' => Below W.heap.size W w' ∧ ∃ (pa : Option Addr) (pc : Nat), e = .returned (.tuple #[.slice pa n pc, .int .i64 0]) ∧ Sl .i64 w' (.slice pa n pc) (ints pl))) := ⟨fun W hs => by
    refine (cProfile_any HD.out la lc n sl W hs HSN.out HSQ.out (by omega)).mono fun e w' h => ?_
    obtain ⟨hb, vt, rfl, ht⟩ := h
    rw [hpl] at ht
    obtain ⟨ta, tc, rfl, _, _⟩ := ht.form
    rw [FFld.ints_len, HPN.out] at ht ⊢
    exact ⟨hb, ta, tc, rfl, ht⟩⟩
  have HM1 : Kept (∀ W ta tc, Sl .i64 W (.slice ta (Lf n) tc) (ints (bmT D HD.out.pre.pk sl n)) → Sl .i64 W (.slice la n lc) (ints sl) → Calls Tryz.prog 60 #[.int .i64 D.q, .slice ta (Lf n) tc, .slice la n lc] W (RB W (.tuple #[.bool true, .int .i64 0]))) := ⟨fun W ta tc ht hs => by
    have h := cmakes_ok HD.out ta la tc lc (Lf n) n (bmT D HD.out.pre.pk sl n) sl W ht hs (HTL.out n) HSN.out (HTQ.out n) HSQ.out (by omega) (HLI.out n)
    rw [HMK.out] at h
    exact h⟩
  have HM2 : Kept (∀ W i ta tc, i < n → mkP D (bmT D HD.out.pre.pk sl i) (sl.take (i + 1)) (i + 1) = false → Sl .i64 W (.slice ta (Lf i) tc) (ints (bmT D HD.out.pre.pk sl i)) → Sl .i64 W (.slice la n lc) (ints sl) → Calls Tryz.prog 60 #[.int .i64 D.q, .slice ta (Lf i) tc, .slice la (i + 1) (i + 1)] W (RB W (.tuple #[.bool false, .int .i64 0]))) := ⟨fun W i ta tc hi hf ht hs => by
    have hs' := sl_take hs (k := i + 1) (by rw [FFld.ints_len, HSN.out]; exact hi)
    rw [← ints_take] at hs'
    have h := cmakes_ok HD.out ta la tc (i + 1) (Lf i) (i + 1) (bmT D HD.out.pre.pk sl i) (sl.take (i + 1)) W ht hs' (HTL.out i) (by rw [List.length_take, HSN.out]; omega) (HTQ.out i) (fun a ha => HSQ.out a (List.mem_of_mem_take ha)) (by omega) (by have := HLI.out i; omega)
    rw [hf] at h
    exact h⟩
  clear hLf hLi hpl HMK
  go_wp2_with fail
  (with_reducible refine (HPR.out _ HL2.out).mono ?_)
  rintro e w3 ⟨hb3, pa, pc, rfl, hp⟩
  have HB3 := Kept.mk (bstep HB2.out hb3)
  have HL3 := Kept.mk (HL2.out.below hb3)
  have HP3 := Kept.mk hp
  clear hb3 hp HB2 HL2 HPR
  go_wp2_with fail
  (with_reducible refine (HSA.out _ HL3.out).mono ?_)
  rintro e w4 ⟨hb4, ta, tc, rfl, ht⟩
  have HB4 := Kept.mk (bstep HB3.out hb4)
  have HL4 := Kept.mk (HL3.out.below hb4)
  have HP4 := Kept.mk (HP3.out.below hb4)
  have HT4 := Kept.mk ht
  clear hb4 ht HB3 HL3 HP3 HSA
  go_wp2_with fail
  (with_reducible refine (HM1.out _ _ _ HT4.out HL4.out).mono ?_)
  rintro e w5 ⟨hb5, rfl⟩
  have HB5 := Kept.mk (bstep HB4.out hb5)
  have HL5 := Kept.mk (HL4.out.below hb5)
  have HP5 := Kept.mk (HP4.out.below hb5)
  have enn : ((n : Int) != (n : Int)) = false := by simp
  clear hb5 HB4 HL4 HP4 HT4 HM1
  obtain ⟨ln, hln⟩ : ∃ x, Lf n = x := ⟨_, rfl⟩
  rw [hln]
  have HLN := Kept.mk hln
  clear hln
  go_wp2
  go_loopw [13, 14] (fun lv iv wr => ∃ (i : Nat), i ≤ n ∧ iv = .int .i64 i ∧ lv = .int .i64 (Lf i : Nat) ∧ Kept (Below w5.heap.size w5 wr)) (fun _ iv _ => n - (intOf iv).toNat)
  case atStart => exact ⟨0, Nat.zero_le _, rfl, by rw [HL0.out]; rfl, ⟨Below.refl _ _⟩⟩
  case round =>
    obtain ⟨i, hin, rfl, rfl, hbw⟩ := hrel
    by_cases hlt : i < n
    · obtain ⟨bp, op, rfl, hbp, u0⟩ := (HP5.out.below hbw.out).news_ i (by rw [FFld.ints_len, HPN.out]; exact hlt)
      rw [FFld.ints_get, HPI.out i hlt] at u0
      obtain ⟨y, hy⟩ : ∃ y, Lf i = y := ⟨_, rfl⟩
      obtain ⟨x, hx⟩ : ∃ x, Lf (i + 1) = x := ⟨_, rfl⟩
      have hyi : y ≤ i := by rw [← hy]; exact HLI.out i
      have hnx := HNX.out i
      rw [hy, hx] at hnx
      have HX := Kept.mk hx
      have HY := Kept.mk hy
      rw [hx] at u0
      rw [hy]
      clear hy hx
      rcases hnx with h | ⟨h2, h3, h4⟩
      · subst h
        have e0 : ((x : Int) != (x : Int)) = false := by simp
        have e1 : ¬ ((x : Int) < (x : Int)) := by omega
        have e2 : ¬ (x < x) := by omega
        go_wp2
        go_roundw
        case rel => exact ⟨i + 1, by omega, by go_num, by rw [HX.out], hbw⟩
        case measure => simp [intOf] <;> omega
      · have e0 : ((x : Int) != (y : Int)) = true := by rw [bne_iff_ne]; omega
        have e3 : ((x : Int) != (x : Int)) = false := by simp
        have e1 : ¬ ((x : Int) < (y : Int)) := by omega
        have e2 : ¬ (x < y) := by omega
        have er : (i : Int) + 1 - (y : Int) = (x : Nat) := by omega
        have eyy : ((y : Int) != (y : Int)) = false := by simp
        have HLw := Kept.mk (HL5.out.below hbw.out)
        obtain ⟨bl, ol, rfl, hbl, u1⟩ := HLw.out.news_ i (by rw [FFld.ints_len, HSN.out]; exact hlt)
        have HSI := Kept.mk (HSH.out wr i (by omega) HLw.out)
        have HMI := Kept.mk (fun W ta tc => HM2.out W i ta tc hlt h4)
        rw [HY.out] at HSI HMI
        clear h2 h3 h4 HSH HM2 u1
        go_wp2_with fail
        (with_reducible refine HSI.out.mono ?_)
        rintro e w6 ⟨hb6, ua, uc, rfl, hu⟩
        have HU6 := Kept.mk hu
        have HL6 := Kept.mk (HLw.out.below hb6)
        have HB6 := Kept.mk (bstep hbw.out hb6)
        have u0 := belowCell hb6 u0
        clear hb6 hu HSI HLw
        go_wp2_with fail
        (with_reducible refine (HMI.out _ _ _ HU6.out HL6.out).mono ?_)
        rintro e w7 ⟨hb7, rfl⟩
        have HB7 := Kept.mk (bstep HB6.out hb7)
        have u0 := belowCell hb7 u0
        clear hb7 HMI HU6 HL6 HB6
        go_wp2
        go_roundw
        case rel => exact ⟨i + 1, by omega, by go_num, by rw [HX.out], HB7⟩
        case measure => simp [intOf] <;> omega
    · obtain rfl : i = n := by omega
      rw [HLN.out]
      have e0 : ((ln : Int) == (ln : Int)) = true := by simp
      have HBW := Kept.mk (bstep HB5.out hbw.out)
      go_wp2_with fail
      (with_reducible refine (HAW.out _).mono ?_)
      rintro e w12 ⟨hb12, rfl⟩
      have HBZ := Kept.mk (bstep HBW.out hb12)
      clear hb12
      go_wp2
      go_ret
      exact ⟨HBZ.out, rfl⟩
end Go.Proofs.YtdnheaafcbihbaaGreat
