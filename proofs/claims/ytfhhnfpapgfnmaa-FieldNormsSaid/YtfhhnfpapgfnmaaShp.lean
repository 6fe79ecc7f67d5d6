import Derived.Test.YtfhhnfpapgfnmaaZChk
import Derived.Test.YtfhhnfpapgfnmaaZ24
set_option linter.unusedVariables false
set_option linter.unusedSimpArgs false
namespace Go.Proofs.Ytfhhnfpapgfnmaa
open Go Go.RowKit Go.Deep
open FFld (ints)
theorem all_step {α : Type} {f : α → Bool} {l : List α} {i : Nat} (d : α) (h : (l.take i).all f = true) (hi : i < l.length) : (l.take (i + 1)).all f = f (l[i]?.getD d) := all_take d h hi
set_option maxRecDepth 20000 in
set_option maxHeartbeats 4000000 in
theorem rshape_any (D : FFld.FD) (ao : Option Addr) (rows : List (List Int)) (cap : Nat) (w : World) (hcap : rows.length ≤ cap) (hmax : cap ≤ maxLen) (h : Sls w ao rows) :
    Calls Try.prog 75 #[rfv D.q D.p D.k D.m, .slice ao rows.length cap] w (RB w (.int .i64 (mErr D rows : Nat))) := by
  have HX0 : Kept (Bxs w [rbox D.q D.p D.k D.m] (w.alloc (rbox D.q D.p D.k D.m))) := ⟨(Bxs.start w).alloc (by simp) _⟩
  have HS := Kept.mk h
  obtain ⟨n, hN⟩ : ∃ n, rows.length = n := ⟨_, rfl⟩
  rw [hN] at hcap ⊢
  have HN := Kept.mk hN
  unfold maxLen at hmax
  clear h hN
  by_cases h0 : n = 0
  · subst h0
    have HE : Kept (mErr D rows = 0) := ⟨by unfold mErr; rw [if_pos HN.out]⟩
    rw [HE.out]
    go_enter Try.func75, Try.ntmps75
    go_wp2
    go_loopw [5] (fun iv wr => iv = .int .i64 0 ∧ w.alloc (rbox D.q D.p D.k D.m) = wr) (fun _ _ => 0)
    case atStart => exact ⟨rfl, rfl⟩
    case round =>
      obtain ⟨rfl, rfl⟩ := hrel
      go_wp2
      go_loopw [6] (fun iv wr => iv = .int .i64 0 ∧ w.alloc (rbox D.q D.p D.k D.m) = wr) (fun _ _ => 0)
      case atStart => exact ⟨rfl, rfl⟩
      case round =>
        obtain ⟨rfl, rfl⟩ := hrel
        go_wp2
        go_ret
        exact ⟨HX0.out.1, rfl⟩
  · have hn0 : 0 < n := by omega
    have eg0 : decide ((n : Int) > 0) = true := by rw [decide_eq_true_eq]; omega
    by_cases h64 : 64 < n
    · have HE : Kept (mErr D rows = 2) := ⟨by unfold mErr; rw [if_neg (by rw [HN.out]; exact h0), if_pos (by rw [HN.out]; exact .inl h64)]⟩
      have e1 : decide ((n : Int) > 64) = true := by rw [decide_eq_true_eq]; omega
      rw [HE.out]
      clear h0
      go_enter Try.func75, Try.ntmps75
      go_wp2
      go_ret
      exact ⟨HX0.out.1, rfl⟩
    · have e1 : decide ((n : Int) > 64) = false := by rw [decide_eq_false_iff_not]; omega
      obtain ⟨g, o, rv, rfl, hg, hcell, hsl⟩ := HS.out 0 (by rw [HN.out]; omega)
      obtain ⟨a0, c0, rfl, hc0, hm0⟩ := hsl.form
      obtain ⟨r0, hr0⟩ : ∃ r, (rows[0]?.getD []).length = r := ⟨_, rfl⟩
      rw [hr0] at hcell hc0
      have HR0 : Kept (rlen rows 0 = r0) := ⟨hr0⟩
      rw [Nat.add_zero] at hcell
      have hcell0 := (HX0.out.1.cell (p := ⟨g, o, none⟩) hg).trans hcell
      unfold maxLen at hm0
      clear hsl hr0
      by_cases h65 : 64 < r0
      · have HE : Kept (mErr D rows = 2) := ⟨by unfold mErr; rw [if_neg (by rw [HN.out]; exact h0), if_pos (by rw [HR0.out]; exact .inr h65)]⟩
        have e2 : decide ((r0 : Int) > 64) = true := by rw [decide_eq_true_eq]; omega
        rw [HE.out]
        clear h0
        go_enter Try.func75, Try.ntmps75
        go_wp2
        go_ret
        exact ⟨HX0.out.1, rfl⟩
      · have e2 : decide ((r0 : Int) > 64) = false := by rw [decide_eq_false_iff_not]; omega
        have HE : Kept (mErr D rows = if rows.all (fun r => r.length == r0) then (if rows.all (elsB D) then 0 else 1) else 7) := ⟨by unfold mErr; rw [if_neg (by rw [HN.out]; exact h0), HR0.out, if_neg (by rw [HN.out]; omega)]⟩
        have hn64 : n ≤ 64 := by omega
        clear h0 h64 h65
        go_enter Try.func75, Try.ntmps75
        go_wp2
        go_loopw [5] (fun iv wr => ∃ (i : Nat), i ≤ n ∧ iv = .int .i64 i ∧ Kept ((rows.take i).all (fun r => r.length == r0) = true) ∧ Kept (Bxs w [rbox D.q D.p D.k D.m] wr)) (fun iv _ => n - (intOf iv).toNat)
        case atStart => exact ⟨0, Nat.zero_le _, rfl, ⟨rfl⟩, HX0⟩
        case round =>
          obtain ⟨i, hin, rfl, hat, hbx⟩ := hrel
          have ic0 := (hbx.out.1.cell (p := ⟨g, o, none⟩) hg).trans hcell
          by_cases hlt : i < n
          · obtain ⟨g', o', rv, ee, hg', hcell', hsl⟩ := HS.out i (by rw [HN.out]; exact hlt)
            simp only [Option.some.injEq, Addr.mk.injEq, and_true] at ee
            obtain ⟨rfl, rfl⟩ := ee
            obtain ⟨a1, c1, rfl, hc1, hm1⟩ := hsl.form
            obtain ⟨ri, hri⟩ : ∃ r, (rows[i]?.getD []).length = r := ⟨_, rfl⟩
            rw [hri] at hcell' hc1
            have ici := (hbx.out.1.cell (p := ⟨g, o + i, none⟩) hg).trans hcell'
            have hT := all_step (f := fun r : List Int => r.length == r0) [] hat.out (by rw [HN.out]; exact hlt)
            simp only [hri] at hT
            unfold maxLen at hm1
            by_cases heq : ri = r0
            · subst heq
              have HT : Kept ((rows.take (i + 1)).all (fun r => r.length == ri) = true) := ⟨by rw [hT]; simp⟩
              have err : ((ri : Int) == (ri : Int)) = true := by simp
              clear hT hri hsl hcell'
              go_wp2
              go_region_held3 (fun w' => w'.cell? ⟨g, o, none⟩ = some (.slice a0 ri c0) ∧ w'.cell? ⟨g, o + i, none⟩ = some (.slice a1 ri c1))
                (first | exact ⟨ic0, ici⟩ | go_keep) (fail)
              have HX3 := Kept.mk hbx.out.drew
              go_wp2
              go_roundw
              case rel => exact ⟨i + 1, by omega, by go_num, HT, HX3⟩
              case measure => simp [intOf] <;> omega
            · have e3 : ((ri : Int) == (r0 : Int)) = false := by rw [beq_eq_false_iff_ne]; omega
              have HF : Kept (mErr D rows = 7) := ⟨by
                rw [HE.out, if_neg]
                rw [all_false (i := i + 1) (by rw [hT, beq_eq_false_iff_ne]; exact heq)]
                simp⟩
              clear hT hri hsl heq hcell'
              go_wp2
              go_region_held3 (fun w' => w'.cell? ⟨g, o, none⟩ = some (.slice a0 r0 c0) ∧ w'.cell? ⟨g, o + i, none⟩ = some (.slice a1 ri c1))
                (first | exact ⟨ic0, ici⟩ | go_keep) (fail)
              have HX3 := Kept.mk hbx.out.drew
              go_wp2
              go_ret
              exact ⟨HX3.out.1, by rw [HF.out]; rfl⟩
          · obtain rfl : i = n := by omega
            have HE2 : Kept (mErr D rows = if rows.all (elsB D) then 0 else 1) := ⟨by
              rw [HE.out, if_pos]
              have := hat.out
              rw [← HN.out, List.take_length] at this
              exact this⟩
            clear HE hat
            go_wp2
            go_loopw [6] (fun iv wr => ∃ (j : Nat), j ≤ i ∧ iv = .int .i64 j ∧ Kept ((rows.take j).all (elsB D) = true) ∧ Kept (Bxs w [rbox D.q D.p D.k D.m] wr)) (fun iv _ => i - (intOf iv).toNat)
            case atStart => exact ⟨0, Nat.zero_le _, rfl, ⟨rfl⟩, hbx⟩
            case round =>
              clear ic0 hbx
              obtain ⟨j, hjn, rfl, hat, hbx⟩ := hrel
              by_cases hlt2 : j < i
              · obtain ⟨g', o', rv, ee, hg', hcell', hsl⟩ := HS.out j (by rw [HN.out]; exact hlt2)
                simp only [Option.some.injEq, Addr.mk.injEq, and_true] at ee
                obtain ⟨rfl, rfl⟩ := ee
                have hT := all_step (f := elsB D) [] hat.out (by rw [HN.out]; exact hlt2)
                have hA := Kept.mk (fun W (hW : Below w.heap.size w W) => relements_any D _ _ W (hsl.below hW))
                obtain ⟨t, ht⟩ : ∃ t, elsB D (rows[j]?.getD []) = t := ⟨_, rfl⟩
                rw [ht] at hA hT
                have HT := Kept.mk hT
                have icj := (hbx.out.1.cell (p := ⟨g, o + j, none⟩) hg).trans hcell'
                obtain ⟨i0, i1, i2, i3⟩ := four_cells hbx.out.b0
                clear hT ht hsl hcell'
                cases t with
                | true =>
                  go_wp2
                  go_region_held3 (fun w' => w'.cell? ⟨w.heap.size, 0, none⟩ = some (.int .i64 D.q) ∧ w'.cell? ⟨w.heap.size, 1, none⟩ = some (.int .i64 D.p) ∧ w'.cell? ⟨w.heap.size, 2, none⟩ = some (.int .i64 D.k) ∧ w'.cell? ⟨w.heap.size, 3, none⟩ = some (.int .i64 D.m) ∧ w'.cell? ⟨g, o + j, none⟩ = some rv)
                    (first | exact ⟨j0, j1, j2, j3, jc⟩ | exact ⟨i0, i1, i2, i3, icj⟩ | go_keep)
                    ((first
                      | (go_at_call 70; (with_reducible refine (hA.out _ ?h1).mono ?_); (case h1 => first | exact hbx.out.1 | exact hbx.out.1.drew); rintro e w3 ⟨hb3, rfl⟩; have HB3 := Kept.mk (bstep (show Below wr.heap.size wr _ from (by first | exact Below.refl _ _ | exact (Below.refl _ _).drew)) hb3); have j0 := belowCell HB3.out i0; have j1 := belowCell HB3.out i1; have j2 := belowCell HB3.out i2; have j3 := belowCell HB3.out i3; have jc := belowCell HB3.out icj; clear hb3)))
                  have HX3 := Kept.mk (hbx.out.below HB3.out)
                  go_wp2
                  go_roundw
                  case rel => exact ⟨j + 1, by omega, by go_num, HT, HX3⟩
                  case measure => simp [intOf] <;> omega
                | false =>
                  have HF : Kept (mErr D rows = 1) := ⟨by rw [HE2.out, if_neg]; rw [all_false (i := j + 1) HT.out]; simp⟩
                  go_wp2
                  go_region_held3 (fun w' => w'.cell? ⟨w.heap.size, 0, none⟩ = some (.int .i64 D.q) ∧ w'.cell? ⟨w.heap.size, 1, none⟩ = some (.int .i64 D.p) ∧ w'.cell? ⟨w.heap.size, 2, none⟩ = some (.int .i64 D.k) ∧ w'.cell? ⟨w.heap.size, 3, none⟩ = some (.int .i64 D.m) ∧ w'.cell? ⟨g, o + j, none⟩ = some rv)
                    (first | exact ⟨j0, j1, j2, j3, jc⟩ | exact ⟨i0, i1, i2, i3, icj⟩ | go_keep)
                    ((first
                      | (go_at_call 70; (with_reducible refine (hA.out _ ?h1).mono ?_); (case h1 => first | exact hbx.out.1 | exact hbx.out.1.drew); rintro e w3 ⟨hb3, rfl⟩; have HB3 := Kept.mk (bstep (show Below wr.heap.size wr _ from (by first | exact Below.refl _ _ | exact (Below.refl _ _).drew)) hb3); have j0 := belowCell HB3.out i0; have j1 := belowCell HB3.out i1; have j2 := belowCell HB3.out i2; have j3 := belowCell HB3.out i3; have jc := belowCell HB3.out icj; clear hb3)))
                  have HX3 := Kept.mk (hbx.out.below HB3.out)
                  go_wp2
                  go_ret
                  exact ⟨HX3.out.1, by rw [HF.out]; rfl⟩
              · obtain rfl : j = i := by omega
                have HF : Kept (mErr D rows = 0) := ⟨by rw [HE2.out, if_pos]; have := hat.out; rw [← HN.out, List.take_length] at this; exact this⟩
                go_wp2
                go_ret
                exact ⟨hbx.out.1, by rw [HF.out]; rfl⟩
end Go.Proofs.Ytfhhnfpapgfnmaa
