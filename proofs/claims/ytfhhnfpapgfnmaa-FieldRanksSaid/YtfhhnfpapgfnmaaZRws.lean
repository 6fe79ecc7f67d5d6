/-
  Texts of the proof, merged by program: Rws.
-/
import Derived.Test.YtfhhnfpapgfnmaaZLma
import Derived.Test.YtfhhnfpapgfnmaaMro
import Derived.Test.YtfhhnfpapgfnmaaZOpl
set_option linter.unusedVariables false
set_option linter.unusedSimpArgs false
namespace Go.Proofs.Ytfhhnfpapgfnmaa
open Go Go.RowKit Go.Deep
open FFld (ints)
set_option maxRecDepth 20000 in
set_option maxHeartbeats 2000000 in
/-- Rows that are the same. -/
theorem rows_eq (ao bo : Option Addr) (rows : List (List Int)) (ca cb n : Nat) (w : World) (ha : Sls w ao rows) (hb : Sls w bo rows) (hn : rows.length = n) (hca : n ≤ ca) (hcb : n ≤ cb) (hma : ca ≤ maxLen) (hmb : cb ≤ maxLen) (hl : ∀ l ∈ rows, l.length ≤ 1000000) :
    Calls Try.prog 77 #[.slice ao n ca, .slice bo n cb] w (RB w (.bool true)) := by
  have HA := Kept.mk ha
  have HB := Kept.mk hb
  have HN := Kept.mk hn
  have HL := Kept.mk hl
  unfold maxLen at hma hmb
  have enn : ((n : Int) == (n : Int)) = true := by simp
  have enn2 : ((n : Int) != (n : Int)) = false := by simp
  clear ha hb hn hl
  go_enter Try.func77, Try.ntmps77
  go_wp2
  go_loopw [5] (fun iv wr => ∃ i : Nat, i ≤ n ∧ iv = .int .i64 i ∧ Kept (Below w.heap.size w wr)) (fun iv _ => n - (intOf iv).toNat)
  case atStart => exact ⟨0, Nat.zero_le _, rfl, ⟨Below.refl _ _⟩⟩
  case round =>
    obtain ⟨i, hi, rfl, hbw⟩ := hrel
    by_cases hlt : i < n
    · obtain ⟨g, o, rv, rfl, hg, hcell, hsl⟩ := (HA.out.below hbw.out) i (by rw [HN.out]; exact hlt)
      obtain ⟨g2, o2, rv2, rfl, hg2, hcell2, hsl2⟩ := (HB.out.below hbw.out) i (by rw [HN.out]; exact hlt)
      obtain ⟨xs, hxs⟩ : ∃ xs, rows[i]?.getD [] = xs := ⟨_, rfl⟩
      have hxl : xs.length ≤ 1000000 := by
        rw [← hxs, List.getElem?_eq_getElem (by rw [HN.out]; exact hlt)]
        exact HL.out _ (List.getElem_mem _)
      rw [hxs] at hsl hsl2
      obtain ⟨a1, c1, rfl, hc1, hm1⟩ := hsl.form
      obtain ⟨a2, c2, rfl, hc2, hm2⟩ := hsl2.form
      have HS := Kept.mk (fun W (hW : Below wr.heap.size wr W) => same_eq _ _ xs W (hsl.below hW) (hsl2.below hW) hxl)
      obtain ⟨m, hm⟩ : ∃ m, xs.length = m := ⟨_, rfl⟩
      rw [hm] at hcell hcell2 HS
      clear hsl hsl2 hxs hxl hm
      go_wp2
      go_region_held3 (fun w' => w'.cell? ⟨g, o + i, none⟩ = some (.slice a1 m c1) ∧ w'.cell? ⟨g2, o2 + i, none⟩ = some (.slice a2 m c2))
        (first | exact ⟨j0, j1⟩ | exact ⟨hcell, hcell2⟩ | go_keep)
        ((first
          | (go_at_call 22; (with_reducible refine (HS.out _ ?h1).mono ?_); (case h1 => first | exact Below.refl _ _ | exact (Below.refl _ _).drew); rintro e v1 ⟨hb, rfl⟩; have hy := Kept.mk (bstep (show Below wr.heap.size wr _ from (by first | exact Below.refl _ _ | exact (Below.refl _ _).drew)) hb); have j0 := belowCell hy.out hcell; have j1 := belowCell hy.out hcell2; clear hb)))
      have HB1 := Kept.mk (bstep hbw.out hy.out)
      go_wp2
      go_roundw
      case rel => exact ⟨i + 1, by omega, by go_num, HB1⟩
      case measure => simp [intOf] <;> omega
    · obtain rfl : i = n := by omega
      go_wp2
      go_ret
      exact ⟨hbw.out, rfl⟩
end Go.Proofs.Ytfhhnfpapgfnmaa
