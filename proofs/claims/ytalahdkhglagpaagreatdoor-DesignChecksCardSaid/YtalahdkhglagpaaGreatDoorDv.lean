import Derived.Test.YtalahdkhglagpaaGreatDoorDu
import Derived.Test.YtalahdkhglagpaaGreatDoorDt
set_option linter.unusedVariables false
set_option linter.unusedSimpArgs false
namespace Go.Proofs.YtalahdkhglagpaaGreatDoor
open Go Go.RowKit Go.Deep
open Dnt
open Dsg
open Classical in
/-- What Symbol answers: the error and the symbol. -/
noncomputable def smE (a b p : Int) : Nat := if rgF a b ≠ 0 then rgF a b else if plI p then 0 else 1
open Classical in
noncomputable def smV (a b p : Int) : Int := if smE a b p = 0 then syF a b p else 0
theorem rgF_zero {a b : Int} (h : rgF a b = 0) : a ≠ 0 ∧ b ≠ 0 ∧ (-1000000 ≤ a ∧ a ≤ 1000000) ∧ (-1000000 ≤ b ∧ b ≤ 1000000) := by
  unfold rgF at h
  by_cases h1 : a = 0 ∨ b = 0
  · rw [if_pos h1] at h; cases h
  · rw [if_neg h1] at h
    by_cases h2 : a < -1000000 ∨ a > 1000000 ∨ b < -1000000 ∨ b > 1000000
    · rw [if_pos h2] at h; cases h
    · omega
theorem plI_ok {p : Int} (h : plI p) : okPl p ∧ (3 ≤ p → p % 2 = 1) := by
  rcases h with rfl | ⟨h1, h2, h3⟩
  · exact ⟨.inl rfl, by omega⟩
  · by_cases e : p = 2
    · exact ⟨.inr (.inl e), by omega⟩
    · refine ⟨.inr (.inr ⟨by omega, h1⟩), fun _ => ?_⟩
      have := h3.2 2 (by omega) (by omega)
      omega
theorem rgF_le (a b : Int) : rgF a b ≤ 6 := by
  unfold rgF
  repeat' split
  all_goals omega
open Classical in
set_option maxRecDepth 20000 in
set_option maxHeartbeats 4000000 in
theorem symbolP_any (a b p : Int) (w : World) (hp : -9223372036854775808 ≤ p ∧ p ≤ 9223372036854775807) :
    Calls Tryz.prog 25 #[.int .i64 a, .int .i64 b, .int .i64 p] w (RB w (.tuple #[.int .i64 (smV a b p), .int .i64 (smE a b p : Nat)])) := by
  have HCE := Kept.mk (fun w => checkEquation_any a b w)
  have HIP := Kept.mk (fun w => isPlace_any p w hp)
  obtain ⟨r, hr⟩ : ∃ r, rgF a b = r := ⟨_, rfl⟩
  have hrb := rgF_le a b
  rw [hr] at HCE hrb
  by_cases hr0 : r = 0
  · subst hr0
    obtain ⟨h1, h2, h3, h4⟩ := rgF_zero hr
    by_cases hpl : plI p
    · have HE : Kept (smE a b p = 0) := ⟨by unfold smE; rw [if_neg (by omega), if_pos hpl]⟩
      have HV : Kept (smV a b p = syF a b p) := ⟨by unfold smV; rw [if_pos HE.out]⟩
      have HSY := Kept.mk (fun w => symbol_any a b p w h1 h2 h3 h4 (plI_ok hpl).1)
      rw [decide_eq_true hpl] at HIP
      clear hr h1 h2 h3 h4 hpl
      go_enter Tryz.func25, Tryz.ntmps25
      go_wp2_with fail
      refine (HCE.out _).mono ?_
      rintro e w1 ⟨rfl, rfl⟩
      go_wp2_with fail
      refine (HIP.out _).mono ?_
      rintro e w1 ⟨hb1, rfl⟩
      have HB := Kept.mk hb1
      clear hb1
      go_wp2_with fail
      refine (HSY.out _).mono ?_
      rintro e w2 ⟨rfl, rfl⟩
      go_wp2
      exact bodyPost_ret (v := .tuple #[.int .i64 (syF a b p), .int .i64 0]) (by simp [results, Tryz.results25, go_sem]) rfl ⟨HB.out, by rw [HE.out, HV.out]; rfl⟩
    · have HE : Kept (smE a b p = 1) := ⟨by unfold smE; rw [if_neg (by omega), if_neg hpl]⟩
      have HV : Kept (smV a b p = 0) := ⟨by unfold smV; rw [if_neg (by rw [HE.out]; omega)]⟩
      rw [decide_eq_false hpl] at HIP
      clear hr h1 h2 h3 h4 hpl
      go_enter Tryz.func25, Tryz.ntmps25
      go_wp2_with fail
      refine (HCE.out _).mono ?_
      rintro e w1 ⟨rfl, rfl⟩
      go_wp2_with fail
      refine (HIP.out _).mono ?_
      rintro e w1 ⟨hb1, rfl⟩
      have HB := Kept.mk hb1
      clear hb1
      go_wp2
      exact bodyPost_ret (v := .tuple #[.int .i64 0, .int .i64 1]) (by simp [results, Tryz.results25, go_sem]) rfl ⟨HB.out, by rw [HE.out, HV.out]; rfl⟩
  · have HE : Kept (smE a b p = r) := ⟨by unfold smE; rw [hr, if_pos hr0]⟩
    have HV : Kept (smV a b p = 0) := ⟨by unfold smV; rw [if_neg (by rw [HE.out]; exact hr0)]⟩
    have e1 : ((r : Int) != 0) = true := by rw [bne_iff_ne]; omega
    clear hr
    go_enter Tryz.func25, Tryz.ntmps25
    go_wp2_with fail
    refine (HCE.out _).mono ?_
    rintro e w1 ⟨rfl, rfl⟩
    go_wp2
    exact bodyPost_ret (v := .tuple #[.int .i64 0, .int .i64 r]) (by simp [results, Tryz.results25, go_sem]) rfl ⟨Below.refl _ _, by rw [HE.out, HV.out]⟩
theorem sm233 : smE 2 3 3 = 0 ∧ smV 2 3 3 = -1 := by
  have h : smE 2 3 3 = 0 := by
    unfold smE
    rw [if_neg (by decide), if_pos (.inr ⟨by omega, by omega, isPr3⟩)]
  exact ⟨h, by unfold smV; rw [if_pos h, sy23]⟩
def rows7 : List (List Int) := [[0, 1, 3], [1, 2, 4], [2, 3, 5], [3, 4, 6], [0, 4, 5], [1, 5, 6], [0, 2, 6]]
theorem ab7 : abB 7 rows7 = true := by decide
theorem tg7 : tgF 7 rows7 = 1 := by
  have h1 : (tgL 7 rows7).count 1 = 1 := by decide
  have h2 : ∀ b, b < 7 → ∀ a, a < b → (tgL 7 rows7).count (a * 7 + b) = 1 := by decide
  unfold tgF
  rw [if_pos (fun a b hab hb => by rw [h1]; exact h2 b hb a hab), h1]
theorem ck7 : ckE 7 rows7 = 0 ∧ ckV 7 rows7 = prv 7 7 3 3 1 := by
  have h : ckE 7 rows7 = 0 := by
    unfold ckE
    rw [if_neg (by omega), if_neg (by decide), if_pos ab7, show (7 : Int).toNat = 7 from rfl, tg7, if_neg (by omega)]
  refine ⟨h, ?_⟩
  unfold ckV
  rw [if_pos h, show (7 : Int).toNat = 7 from rfl, tg7]
  rfl
abbrev lst3 (a b c : Int) : Obj := .cells #[.int .i64 a, .int .i64 b, .int .i64 c] 3
abbrev sl3 (g : Nat) : Value := .slice (some ⟨g, 0, none⟩) 3 3
theorem sl3_of {w : World} {g : Nat} {a b c : Int} (h : w.heap[g]? = some (lst3 a b c)) : Sl .i64 w (sl3 g) [a, b, c] :=
  (show Row 3 .i64 w g [a, b, c] from h).slAll rfl (Nat.le_refl _) (by unfold maxLen; omega)
set_option maxRecDepth 20000 in
set_option maxHeartbeats 8000000 in
theorem awake_any (w : World) : Calls Tryz.prog 14 #[] w (RB w (.bool true)) := by
  have HJ := Kept.mk (fun w => judge_43 w)
  have HS := Kept.mk (fun w => symbolP_any 2 3 3 w (by omega))
  rw [sm233.1, sm233.2] at HS
  go_enter Tryz.func14, Tryz.ntmps14
  go_wp2_with fail
  obtain ⟨W8, hW8⟩ : ∃ W8, ((((((((w.alloc (lst3 0 1 3)).alloc (lst3 1 2 4)).alloc (lst3 2 3 5)).alloc (lst3 3 4 6)).alloc (lst3 0 4 5)).alloc (lst3 1 5 6)).alloc (lst3 0 2 6)).alloc (.cells #[sl3 w.heap.size, sl3 (w.heap.size + 1), sl3 (w.heap.size + 1 + 1), sl3 (w.heap.size + 1 + 1 + 1), sl3 (w.heap.size + 1 + 1 + 1 + 1), sl3 (w.heap.size + 1 + 1 + 1 + 1 + 1), sl3 (w.heap.size + 1 + 1 + 1 + 1 + 1 + 1)] 40)) = W8 := ⟨_, rfl⟩
  have HX8 : Bxs w [lst3 0 1 3, lst3 1 2 4, lst3 2 3 5, lst3 3 4 6, lst3 0 4 5, lst3 1 5 6, lst3 0 2 6, .cells #[sl3 w.heap.size, sl3 (w.heap.size + 1), sl3 (w.heap.size + 1 + 1), sl3 (w.heap.size + 1 + 1 + 1), sl3 (w.heap.size + 1 + 1 + 1 + 1), sl3 (w.heap.size + 1 + 1 + 1 + 1 + 1), sl3 (w.heap.size + 1 + 1 + 1 + 1 + 1 + 1)] 40] W8 := by
    rw [← hW8]
    exact ((((((((Bxs.start w).alloc (by simp) _).alloc (by simp) _).alloc (by simp) _).alloc (by simp) _).alloc (by simp) _).alloc (by simp) _).alloc (by simp) _).alloc (by simp) _
  rw [hW8]
  have hb7 := HX8.2.2 7 _ rfl
  have hsls : Sls W8 (some ⟨w.heap.size + 1 + 1 + 1 + 1 + 1 + 1 + 1, 0, none⟩) rows7 := by
    intro i hi
    have h7 : i < 7 := hi
    match i, h7 with
    | 0, _ => exact ⟨_, _, sl3 w.heap.size, rfl, HX8.lt (i := 7) (by simp), by rw [cell_of_row W8 _ _ _ _ (0, 0) hb7]; rfl, sl3_of (HX8.2.2 0 _ rfl)⟩
    | 1, _ => exact ⟨_, _, sl3 (w.heap.size + 1), rfl, HX8.lt (i := 7) (by simp), by rw [cell_of_row W8 _ _ _ _ (0, 0) hb7]; rfl, sl3_of (HX8.2.2 1 _ rfl)⟩
    | 2, _ => exact ⟨_, _, sl3 (w.heap.size + 2), rfl, HX8.lt (i := 7) (by simp), by rw [cell_of_row W8 _ _ _ _ (0, 0) hb7]; rfl, sl3_of (HX8.2.2 2 _ rfl)⟩
    | 3, _ => exact ⟨_, _, sl3 (w.heap.size + 3), rfl, HX8.lt (i := 7) (by simp), by rw [cell_of_row W8 _ _ _ _ (0, 0) hb7]; rfl, sl3_of (HX8.2.2 3 _ rfl)⟩
    | 4, _ => exact ⟨_, _, sl3 (w.heap.size + 4), rfl, HX8.lt (i := 7) (by simp), by rw [cell_of_row W8 _ _ _ _ (0, 0) hb7]; rfl, sl3_of (HX8.2.2 4 _ rfl)⟩
    | 5, _ => exact ⟨_, _, sl3 (w.heap.size + 5), rfl, HX8.lt (i := 7) (by simp), by rw [cell_of_row W8 _ _ _ _ (0, 0) hb7]; rfl, sl3_of (HX8.2.2 5 _ rfl)⟩
    | 6, _ => exact ⟨_, _, sl3 (w.heap.size + 6), rfl, HX8.lt (i := 7) (by simp), by rw [cell_of_row W8 _ _ _ _ (0, 0) hb7]; rfl, sl3_of (HX8.2.2 6 _ rfl)⟩
  have HCK := Kept.mk (check_any 7 _ rows7 7 W8 hsls (Nat.le_refl _) (by unfold maxLen; omega))
  rw [ck7.1, ck7.2, show rows7.length = 7 from rfl] at HCK
  have HB8 := Kept.mk HX8.1
  clear hW8 HX8 hb7 hsls
  refine HCK.out.mono ?_
  rintro e w1 ⟨hb1, rfl⟩
  have HX1 : Kept (Bxs w1 [prbox 7 7 3 3 1] (w1.alloc (prbox 7 7 3 3 1))) := ⟨(Bxs.start w1).alloc (by simp) _⟩
  have HB1 := Kept.mk (bstep HB8.out hb1)
  clear hb1
  go_wp2_with fail
  refine (HJ.out _).mono ?_
  rintro e w2 ⟨hb2, rfl⟩
  have HX2 : Kept (Bxs w2 [vdbox 4 2] (w2.alloc (vdbox 4 2))) := ⟨(Bxs.start w2).alloc (by simp) _⟩
  have HX12 : Kept (Bxs w1 [prbox 7 7 3 3 1] w2) := ⟨HX1.out.below hb2⟩
  clear hb2
  go_wp2_with fail
  refine (HS.out _).mono ?_
  rintro e w3 ⟨hb3, rfl⟩
  have HX23 := HX2.out.below hb3
  have HX13 := (HX12.out.below HX2.out.1).below hb3
  obtain ⟨⟨p0, p1, p2, p3, p4⟩, _⟩ := five_cells HX13.b0
  obtain ⟨⟨q0, q1, q2, q3, q4, q5, q6, q7⟩, _⟩ := eight_cells HX23.b0
  have HB3 := Kept.mk (bstep HB1.out HX13.1)
  clear hb3 HX23 HX13
  go_wp2
  go_ret
  exact ⟨HB3.out, rfl⟩
end Go.Proofs.YtalahdkhglagpaaGreatDoor
