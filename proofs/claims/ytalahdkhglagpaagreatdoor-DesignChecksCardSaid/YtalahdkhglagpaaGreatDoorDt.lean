import Derived.Test.YtalahdkhglagpaaGreatDoorDs
import Derived.Test.YtalahdkhglagpaaGreatDoorDc
set_option linter.unusedVariables false
set_option linter.unusedSimpArgs false
namespace Go.Proofs.YtalahdkhglagpaaGreatDoor
open Go Go.RowKit Go.Deep
open Dsg
/-- Parameters as a value, and their box. -/
abbrev prv (a b c d e : Int) : Value := .agg #[.int .i64 a, .int .i64 b, .int .i64 c, .int .i64 d, .int .i64 e]
abbrev prbox (a b c d e : Int) : Obj := .cells #[.int .i64 a, .int .i64 b, .int .i64 c, .int .i64 d, .int .i64 e] 25
/-- The error of Check. -/
noncomputable def ckE (v : Int) (rows : List (List Int)) : Nat :=
  if ¬ (3 ≤ v ∧ v ≤ 200) then 1 else if 2000 < rows.length then 2 else if abB v rows = true then (if tgF v.toNat rows = 0 then 60 else 0) else 60
/-- What Check answers. -/
noncomputable def ckV (v : Int) (rows : List (List Int)) : Value :=
  if ckE v rows = 0 then prv v rows.length (((tgF v.toNat rows : Nat) * (v - 1)).tdiv ((rows[0]?.getD []).length - 1)) (rows[0]?.getD []).length (tgF v.toNat rows : Nat) else prv 0 0 0 0 0
theorem five_cells {w : World} {g : Nat} {a b c d e : Value} {T : TypeId} (h : w.heap[g]? = some (.cells #[a, b, c, d, e] T (0, 0))) :
    (w.cell? ⟨g, 0, none⟩ = some a ∧ w.cell? ⟨g, 1, none⟩ = some b ∧ w.cell? ⟨g, 2, none⟩ = some c ∧ w.cell? ⟨g, 3, none⟩ = some d ∧ w.cell? ⟨g, 4, none⟩ = some e) ∧ ∀ i, w.frozen? ⟨g, i, none⟩ = false :=
  ⟨⟨by rw [cell_of_row w g 0 _ T (0, 0) h]; rfl, by rw [cell_of_row w g 1 _ T (0, 0) h]; rfl, by rw [cell_of_row w g 2 _ T (0, 0) h]; rfl, by rw [cell_of_row w g 3 _ T (0, 0) h]; rfl, by rw [cell_of_row w g 4 _ T (0, 0) h]; rfl⟩, fun i => frozen_of_row w g i _ T h⟩
theorem five_set {w : World} {g : Nat} {a b c d e : Value} {T : TypeId} (h : w.heap[g]? = some (.cells #[a, b, c, d, e] T (0, 0))) (a' b' c' d' e' : Value) :
    (((((w.setCell ⟨g, 0, none⟩ a').setCell ⟨g, 1, none⟩ b').setCell ⟨g, 2, none⟩ c').setCell ⟨g, 3, none⟩ d').setCell ⟨g, 4, none⟩ e').heap[g]? = some (.cells #[a', b', c', d', e'] T (0, 0)) := by
  have h1 := heap_setCell_same w g 0 #[a, b, c, d, e] T a' h
  have h2 := heap_setCell_same _ g 1 _ T b' h1
  have h3 := heap_setCell_same _ g 2 _ T c' h2
  have h4 := heap_setCell_same _ g 3 _ T d' h3
  have h5 := heap_setCell_same _ g 4 _ T e' h4
  simpa using h5
set_option maxRecDepth 20000 in
set_option maxHeartbeats 4000000 in
theorem check_any (v : Int) (ao : Option Addr) (rows : List (List Int)) (cap : Nat) (w : World) (h : Sls w ao rows) (hcap : rows.length ≤ cap) (hmax : cap ≤ maxLen) :
    Calls Tryz.prog 5 #[.int .i64 v, .slice ao rows.length cap] w (RB w (.tuple #[ckV v rows, .int .i64 (ckE v rows : Nat)])) := by
  have HSL := Kept.mk h
  have HAB := Kept.mk (fun W (hW : Sls W ao rows) => areBlocks_any v ao rows cap W hW hcap hmax)
  have HTG := Kept.mk (fun (u : Nat) W (hW : Sls W ao rows) (hv : 3 ≤ u ∧ u ≤ 200) (hr : rows.length ≤ 2000) (hab : abB u rows = true) => together_any u ao rows cap W hW hcap hmax hv hr hab)
  obtain ⟨n, hN⟩ : ∃ n, rows.length = n := ⟨_, rfl⟩
  rw [hN] at hcap HAB HTG ⊢
  have HN := Kept.mk hN
  have HPC := Kept.mk (fun w => isPointCount_any v w)
  unfold maxLen at hmax
  have HX0 : Kept (Bxs w [prbox 0 0 0 0 0] (w.alloc (prbox 0 0 0 0 0))) := ⟨(Bxs.start w).alloc (by simp) _⟩
  obtain ⟨⟨c0, c1, c2, c3, c4⟩, f⟩ := five_cells HX0.out.b0
  have f0 := f 0; have f1 := f 1; have f2 := f 2; have f3 := f 3; have f4 := f 4
  have HERR : Kept (∀ (e : Nat), ckE v rows = e → e ≠ 0 → RB w (.tuple #[ckV v rows, .int .i64 (ckE v rows : Nat)]) (.returned (.tuple #[prv 0 0 0 0 0, .int .i64 e])) (w.alloc (prbox 0 0 0 0 0))) := ⟨fun e he h0 => ⟨HX0.out.1, by rw [he]; unfold ckV; rw [if_neg (by rw [he]; exact h0)]⟩⟩
  clear f h hN
  by_cases h1 : 3 ≤ v ∧ v ≤ 200
  rotate_left
  · have HF := Kept.mk (HERR.out 1 (by unfold ckE; rw [if_pos h1]) (by omega))
    rw [decide_eq_false h1] at HPC
    clear h1
    go_enter Tryz.func5, Tryz.ntmps5
    go_wp2_with fail
    refine (HPC.out _).mono ?_
    rintro e w1 ⟨rfl, rfl⟩
    go_wp2
    exact bodyPost_ret (v := .tuple #[prv 0 0 0 0 0, .int .i64 1]) (by simp [results, Tryz.results5, go_sem, c0, c1, c2, c3, c4]) rfl HF.out
  rw [decide_eq_true h1] at HPC
  obtain ⟨h3, h4⟩ := h1
  by_cases h2 : (n : Int) > 2000
  · have e2 : decide ((n : Int) > 2000) = true := decide_eq_true h2
    have HF := Kept.mk (HERR.out 2 (by unfold ckE; rw [if_neg (by omega), if_pos (by rw [HN.out]; omega)]) (by omega))
    go_enter Tryz.func5, Tryz.ntmps5
    go_wp2_with fail
    refine (HPC.out _).mono ?_
    rintro e w1 ⟨rfl, rfl⟩
    go_wp2
    exact bodyPost_ret (v := .tuple #[prv 0 0 0 0 0, .int .i64 2]) (by simp [results, Tryz.results5, go_sem, c0, c1, c2, c3, c4]) rfl HF.out
  have e2 : decide ((n : Int) > 2000) = false := decide_eq_false h2
  have HAB0 := Kept.mk (HAB.out (w.alloc (prbox 0 0 0 0 0)) (HSL.out.below HX0.out.1))
  cases hab : abB v rows with
  | false =>
    have HF := Kept.mk (HERR.out 60 (by unfold ckE; rw [if_neg (by omega), if_neg (by rw [HN.out]; omega), if_neg (by rw [hab]; simp)]) (by omega))
    rw [hab] at HAB0
    clear hab
    go_enter Tryz.func5, Tryz.ntmps5
    go_wp2_with fail
    refine (HPC.out _).mono ?_
    rintro e w1 ⟨rfl, rfl⟩
    go_wp2_with fail
    refine HAB0.out.mono ?_
    rintro e w1 ⟨rfl, rfl⟩
    go_wp2
    exact bodyPost_ret (v := .tuple #[prv 0 0 0 0 0, .int .i64 60]) (by simp [results, Tryz.results5, go_sem, c0, c1, c2, c3, c4]) rfl HF.out
  | true =>
    obtain ⟨u, rfl⟩ : ∃ u : Nat, v = u := ⟨v.toNat, by omega⟩
    have hn2 : n ≤ 2000 := by omega
    have hu3 : 3 ≤ u := by omega
    have hu2 : u ≤ 200 := by omega
    have HTG0 := Kept.mk (HTG.out u (w.alloc (prbox 0 0 0 0 0)) (HSL.out.below HX0.out.1) ⟨hu3, hu2⟩ hn2 hab)
    obtain ⟨k, hk⟩ : ∃ k, (rows[0]?.getD []).length = k := ⟨_, rfl⟩
    have hab' := abB_iff.1 hab
    rw [hk] at hab'
    have hk2 : 2 ≤ k := hab'.2.2.1
    have hk3 : (k : Int) < u := hab'.2.2.2
    have hn0 : 0 < n := by
      apply Classical.byContradiction
      intro hc
      exact hab'.1 (List.eq_nil_of_length_eq_zero (by rw [HN.out]; omega))
    obtain ⟨l, hl⟩ : ∃ l, tgF u rows = l := ⟨_, rfl⟩
    have hlb : l ≤ 80000000 := by
      rw [← hl]
      unfold tgF
      split
      · refine Nat.le_trans List.count_le_length ?_
        rw [← tgP_end]
        refine Nat.le_trans (tgP_len (fun r hr => by have := (hab'.2.1 r hr).1; omega) _ _ _) ?_
        rw [HN.out]
        omega
      · omega
    rw [hl] at HTG0
    rw [hab] at HAB0
    have HE : Kept (ckE u rows = if l = 0 then 60 else 0) := ⟨by
      unfold ckE
      rw [if_neg (by omega), if_neg (by rw [HN.out]; omega), if_pos hab, show ((u : Nat) : Int).toNat = u from rfl, hl]⟩
    have HV : Kept (l ≠ 0 → ckV u rows = prv u n (((l : Int) * ((u : Int) - 1)).tdiv ((k : Int) - 1)) k l) := ⟨fun h0 => by
      unfold ckV
      rw [if_pos (by rw [HE.out, if_neg h0]), show ((u : Nat) : Int).toNat = u from rfl, hl, hk, HN.out]⟩
    obtain ⟨g, o, rv0, rfl, hg, hc0, hs0⟩ := HSL.out 0 (by rw [HN.out]; omega)
    obtain ⟨ra, rc, rfl, _, _⟩ := hs0.form
    rw [hk, Nat.add_zero] at hc0
    have HC0 := Kept.mk hc0
    clear hab hab' hs0 hl hk hc0
    by_cases hl0 : l = 0
    · subst hl0
      have HZ : Kept (ckE u rows = 60) := ⟨by rw [HE.out, if_pos rfl]⟩
      go_enter Tryz.func5, Tryz.ntmps5
      go_wp2_with fail
      refine (HPC.out _).mono ?_
      rintro e w1 ⟨rfl, rfl⟩
      go_wp2_with fail
      refine HAB0.out.mono ?_
      rintro e w1 ⟨rfl, rfl⟩
      go_wp2_with fail
      refine HTG0.out.mono ?_
      rintro e w2 ⟨hb2, rfl⟩
      have hg2 := (hb2.block _ HX0.out.l1).trans HX0.out.b0
      obtain ⟨⟨d0, d1, d2, d3, d4⟩, f⟩ := five_cells hg2
      have g0 := f 0; have g1 := f 1; have g2 := f 2; have g3 := f 3; have g4 := f 4
      have hset := five_set hg2 (.int .i64 0) (.int .i64 0) (.int .i64 0) (.int .i64 0) (.int .i64 0)
      obtain ⟨⟨s0, s1, s2, s3, s4⟩, _⟩ := five_cells hset
      have hbe : Below w.heap.size w w2 := HX0.out.1.trans (hb2.mono HX0.out.1.size)
      have HBE := Kept.mk (((((hbe.setCell (p := ⟨w.heap.size, 0, none⟩) (Nat.le_refl _) (.int .i64 0)).setCell (p := ⟨w.heap.size, 1, none⟩) (Nat.le_refl _) (.int .i64 0)).setCell (p := ⟨w.heap.size, 2, none⟩) (Nat.le_refl _) (.int .i64 0)).setCell (p := ⟨w.heap.size, 3, none⟩) (Nat.le_refl _) (.int .i64 0)).setCell (p := ⟨w.heap.size, 4, none⟩) (Nat.le_refl _) (.int .i64 0))
      clear f hset hg2 hb2 hbe c0 c1 c2 c3 c4 f0 f1 f2 f3 f4
      go_wp2
      exact bodyPost_ret (v := .tuple #[prv 0 0 0 0 0, .int .i64 60]) (by simp [results, Tryz.results5, go_sem, s0, s1, s2, s3, s4]) rfl ⟨HBE.out, by rw [HZ.out]; unfold ckV; rw [if_neg (by rw [HZ.out]; omega)]; rfl⟩
    · have e5 : ((l : Int) == 0) = false := by simp; exact hl0
      have HZ : Kept (ckE u rows = 0) := ⟨by rw [HE.out, if_neg hl0]⟩
      have HV' := Kept.mk (HV.out hl0)
      obtain ⟨u1, hu1⟩ : ∃ x : Nat, u - 1 = x := ⟨_, rfl⟩
      have hu1' : (u : Int) - 1 = u1 := by omega
      obtain ⟨k1, hk1⟩ : ∃ x : Nat, k - 1 = x := ⟨_, rfl⟩
      have hk1' : (k : Int) - 1 = k1 := by omega
      obtain ⟨m, hm⟩ : ∃ m, l * u1 = m := ⟨_, rfl⟩
      have hmb : m ≤ 80000000 * 200 := by rw [← hm]; exact Nat.mul_le_mul hlb (by omega)
      obtain ⟨r, hr⟩ : ∃ r, m / k1 = r := ⟨_, rfl⟩
      have hrb : r ≤ m := by rw [← hr]; exact Nat.div_le_self _ _
      rw [hu1', hk1', ← Int.natCast_mul, hm, Int.tdiv_eq_ediv_of_nonneg (by omega), ← Int.natCast_ediv, hr] at HV'
      have w1' : IntKind.i64.wrap ((l : Int) * u1) = m := by rw [← Int.natCast_mul, hm]; exact wrapB (by omega) (by omega)
      have hkz : ¬ ((k1 : Int) = 0) := by omega
      have w2' : (m : Int).tdiv (k1 : Int) = r := by rw [Int.tdiv_eq_ediv_of_nonneg (by omega), ← Int.natCast_ediv, hr]
      have w2'' : (m : Int) / (k1 : Int) = r := by rw [← Int.natCast_ediv, hr]
      have w3' : IntKind.i64.wrap (r : Int) = r := wrapB (by omega) (by omega)
      clear hm hr
      go_enter Tryz.func5, Tryz.ntmps5
      go_wp2_with fail
      refine (HPC.out _).mono ?_
      rintro e w1 ⟨rfl, rfl⟩
      go_wp2_with fail
      refine HAB0.out.mono ?_
      rintro e w1 ⟨rfl, rfl⟩
      go_wp2_with fail
      refine HTG0.out.mono ?_
      rintro e w2 ⟨hb2, rfl⟩
      have hg2 := (hb2.block _ HX0.out.l1).trans HX0.out.b0
      obtain ⟨⟨d0, d1, d2, d3, d4⟩, f⟩ := five_cells hg2
      have g0 := f 0; have g1 := f 1; have g2 := f 2; have g3 := f 3; have g4 := f 4
      have hset := five_set hg2 (.int .i64 u) (.int .i64 n) (.int .i64 r) (.int .i64 k) (.int .i64 l)
      obtain ⟨⟨s0, s1, s2, s3, s4⟩, _⟩ := five_cells hset
      have hbe : Below w.heap.size w w2 := HX0.out.1.trans (hb2.mono HX0.out.1.size)
      have rc0 := (hbe.cell (p := ⟨g, o, none⟩) hg).trans HC0.out
      have HBE := Kept.mk (((((hbe.setCell (p := ⟨w.heap.size, 0, none⟩) (Nat.le_refl _) (.int .i64 u)).setCell (p := ⟨w.heap.size, 1, none⟩) (Nat.le_refl _) (.int .i64 n)).setCell (p := ⟨w.heap.size, 2, none⟩) (Nat.le_refl _) (.int .i64 r)).setCell (p := ⟨w.heap.size, 3, none⟩) (Nat.le_refl _) (.int .i64 k)).setCell (p := ⟨w.heap.size, 4, none⟩) (Nat.le_refl _) (.int .i64 l))
      clear f hset hg2 hb2 hbe c0 c1 c2 c3 c4 f0 f1 f2 f3 f4
      go_wp2
      exact bodyPost_ret (v := .tuple #[prv u n r k l, .int .i64 0]) (by simp [results, Tryz.results5, go_sem, s0, s1, s2, s3, s4]) rfl ⟨HBE.out, by rw [HZ.out, HV'.out]; rfl⟩
end Go.Proofs.YtalahdkhglagpaaGreatDoor
