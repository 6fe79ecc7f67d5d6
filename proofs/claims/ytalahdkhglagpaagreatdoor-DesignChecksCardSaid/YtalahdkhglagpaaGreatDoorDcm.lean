import Derived.Test.YtalahdkhglagpaaGreatDoorDf
import Derived.Lib.SlicesCompact
set_option linter.unusedVariables false
set_option linter.unusedSimpArgs false
namespace Go.Proofs.YtalahdkhglagpaaGreatDoor
open Go Go.RowKit Go.Deep
open Go.Sort (putRow putCells grow Holds)
open Go.Lib (compact compactUpTo keeps compactUpTo_succ)
open Dsg
theorem arr_get {zs : List Int} {i : Nat} (hi : i < zs.length) : zs.toArray[i]! = zs[i] := by
  rw [getElem!_pos zs.toArray i (by simpa using hi)]
  simp
/-- Behind a sort, Compact leaves each number once. -/
theorem compact_up {zs : List Int} (h : zs.Pairwise (· ≤ ·)) : ∀ m, m ≤ zs.length → (compactUpTo zs.toArray m).Pairwise (· < ·) ∧ (∀ x, x ∈ compactUpTo zs.toArray m ↔ ∃ j, ∃ hj : j < zs.length, j < m ∧ x = zs[j]) := by
  have hs := List.pairwise_iff_getElem.1 h
  intro m
  induction m with
  | zero =>
    intro _
    refine ⟨by simp [compactUpTo], fun x => ?_⟩
    constructor
    · intro hx; simp [compactUpTo] at hx
    · rintro ⟨j, hj, h0, _⟩; omega
  | succ m ih =>
    intro hm
    obtain ⟨h1, h2⟩ := ih (by omega)
    rw [compactUpTo_succ]
    have hml : m < zs.length := by omega
    rw [arr_get hml]
    cases hk : keeps zs.toArray m with
    | true =>
      simp only [if_true]
      refine ⟨List.pairwise_append.2 ⟨h1, by simp, fun x hx y hy => ?_⟩, fun x => ?_⟩
      · rw [List.mem_singleton] at hy
        subst hy
        obtain ⟨j, hj, hjm, rfl⟩ := (h2 x).1 hx
        have hm0 : m ≠ 0 := by omega
        have hne : zs[m] ≠ zs[m - 1] := by
          unfold keeps at hk
          have := of_decide_eq_true hk
          rw [arr_get hml, arr_get (show m - 1 < zs.length by omega)] at this
          rcases this with h3 | h3
          · exact absurd h3 hm0
          · exact h3
        have hle1 : zs[m - 1] ≤ zs[m] := hs (m - 1) m (by omega) hml (by omega)
        have hle2 : zs[j] ≤ zs[m - 1] := by
          by_cases e : j = m - 1
          · subst e; exact Int.le_refl _
          · exact hs j (m - 1) hj (by omega) (by omega)
        omega
      · rw [List.mem_append, h2, List.mem_singleton]
        constructor
        · rintro (⟨j, hj, hjm, e⟩ | e)
          · exact ⟨j, hj, by omega, e⟩
          · exact ⟨m, hml, by omega, e⟩
        · rintro ⟨j, hj, hjm, e⟩
          by_cases hj2 : j < m
          · exact .inl ⟨j, hj, hj2, e⟩
          · have : j = m := by omega
            subst this
            exact .inr e
    | false =>
      simp only [Bool.false_eq_true, if_false, List.append_nil]
      refine ⟨h1, fun x => ?_⟩
      have hk' : ¬ (m = 0 ∨ zs.toArray[m]! ≠ zs.toArray[m - 1]!) := by
        unfold keeps at hk
        exact of_decide_eq_false hk
      have hm0 : m ≠ 0 := fun e => hk' (.inl e)
      have he : zs[m] = zs[m - 1] := by
        have : ¬ zs.toArray[m]! ≠ zs.toArray[m - 1]! := fun e => hk' (.inr e)
        rw [arr_get hml, arr_get (show m - 1 < zs.length by omega)] at this
        exact Classical.not_not.1 this
      rw [h2]
      constructor
      · rintro ⟨j, hj, hjm, e⟩
        exact ⟨j, hj, by omega, e⟩
      · rintro ⟨j, hj, hjm, e⟩
        by_cases hj2 : j < m
        · exact ⟨j, hj, hj2, e⟩
        · have : j = m := by omega
          subst this
          exact ⟨j - 1, by omega, by omega, by rw [e, he]⟩
theorem compact_eq {zs l : List Int} (h : zs.Pairwise (· ≤ ·)) (hl : l.Pairwise (· < ·)) (hm : ∀ x, x ∈ l ↔ x ∈ zs) : compact zs = l := by
  obtain ⟨h1, h2⟩ := compact_up h zs.length (Nat.le_refl _)
  refine rising_eq h1 hl fun x => ?_
  rw [show compact zs = compactUpTo zs.toArray zs.length from rfl, h2, hm]
  constructor
  · rintro ⟨j, hj, _, rfl⟩
    exact List.getElem_mem hj
  · intro hx
    obtain ⟨j, hj, e⟩ := List.getElem_of_mem hx
    exact ⟨j, hj, hj, e.symm⟩
theorem compact_len (zs : List Int) : (compact zs).length ≤ zs.length := by
  unfold compact compactUpTo
  rw [List.length_map]
  refine Nat.le_trans (List.length_filter_le _ _) ?_
  simp
/-- slices.Compact of a row of one's own. -/
theorem compact_mine {E : TypeId} {B : Nat} {w : World} {v : Value} {xs : List Int} (h : Mine E .i64 B w v xs) (hne : xs ≠ []) (hn : xs.length ≤ 1000000) :
    Calls Tryz.prog 80 #[v] w fun e w' => ∃ v', e = .returned v' ∧ Mine E .i64 B w' v' (compact xs) ∧ w.grownBy w' v.ownBlock ∧ v'.ownBlock = v.ownBlock := by
  rcases h with ⟨_, hx⟩ | ⟨g, cap, cur, rfl, hB, hg, h1, h2, h3, h4⟩
  · exact absurd hx hne
  · refine (Tryz.slices_Compact_int g 0 cap xs w (Mine.holds (B := B) (cap := cap) hg h4) (by omega) h1).mono ?_
    rintro e w' ⟨rfl, q, rfl⟩
    have hl := compact_len xs
    have hzl : (compact xs ++ List.replicate (xs.length - (compact xs).length) 0).length = xs.length := by simp; omega
    obtain ⟨p1, p2, p3, p4⟩ := put_cells hg (compact xs ++ List.replicate (xs.length - (compact xs).length) 0) (by omega) q #[]
    rw [Go.Sort.grow_empty] at p1 p4
    refine ⟨_, rfl, .inr ⟨g, cap, _, rfl, hB, p1, by omega, by omega, h3, ?_⟩, p4, rfl⟩
    have := congrArg (List.take (compact xs).length) p3
    rw [hzl, List.take_take, Nat.min_eq_left hl] at this
    rw [this]
    simp
end Go.Proofs.YtalahdkhglagpaaGreatDoor
