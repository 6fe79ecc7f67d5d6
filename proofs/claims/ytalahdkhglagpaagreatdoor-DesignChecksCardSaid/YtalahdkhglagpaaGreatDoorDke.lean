import Derived.Test.YtalahdkhglagpaaGreatDoorDev
set_option linter.unusedVariables false
set_option linter.unusedSimpArgs false
namespace Go.Proofs.YtalahdkhglagpaaGreatDoor
open Go Go.RowKit Go.Deep
open Dsg
/-- What Dual and Complement answer: rows, or the error of Check. -/
def CmRet (v : Int) (rows : List (List Int)) (D : List (List Int)) (w : World) (e : Ending) (w' : World) : Prop :=
  Below w.heap.size w w' ∧ ((ckE v rows = 0 ∧ ∃ ao cap, e = .returned (.tuple #[.slice ao D.length cap, .int .i64 0]) ∧ D.length ≤ cap ∧ cap ≤ maxLen ∧ Sls w' ao D) ∨ (ckE v rows ≠ 0 ∧ e = .returned (.tuple #[.slice none 0 0, .int .i64 (ckE v rows : Nat)])))
theorem ckE_ok {v : Int} {rows : List (List Int)} (h : ckE v rows = 0) : (3 ≤ v ∧ v ≤ 200) ∧ rows.length ≤ 2000 ∧ abB v rows = true ∧ tgF v.toNat rows ≠ 0 := by
  unfold ckE at h
  by_cases h1 : ¬ (3 ≤ v ∧ v ≤ 200)
  · rw [if_pos h1] at h; cases h
  rw [if_neg h1] at h
  by_cases h2 : 2000 < rows.length
  · rw [if_pos h2] at h; cases h
  rw [if_neg h2] at h
  by_cases h3 : abB v rows = true
  · rw [if_pos h3] at h
    by_cases h4 : tgF v.toNat rows = 0
    · rw [if_pos h4] at h; cases h
    · exact ⟨by omega, by omega, h3, h4⟩
  · rw [if_neg h3] at h; cases h
theorem ckE_le (v : Int) (rows : List (List Int)) : ckE v rows ≤ 60 := by
  unfold ckE
  repeat' split
  all_goals omega
theorem ckV_form (v : Int) (rows : List (List Int)) : ∃ a b c d e, ckV v rows = prv a b c d e := by
  unfold ckV
  by_cases h : ckE v rows = 0
  · rw [if_pos h]; exact ⟨_, _, _, _, _, rfl⟩
  · rw [if_neg h]; exact ⟨_, _, _, _, _, rfl⟩
/-- How much of a rising list lies below p. -/
structure Cut (xs : List Int) (p k : Nat) : Prop where
  le : k ≤ xs.length
  lo : ∀ i, i < k → xs[i]?.getD 0 < p
  hi : ∀ i, k ≤ i → i < xs.length → (p : Int) ≤ xs[i]?.getD 0
theorem getD_mem {xs : List Int} {x : Int} (h : x ∈ xs) : ∃ i, i < xs.length ∧ xs[i]?.getD 0 = x := by
  obtain ⟨i, hi, e⟩ := List.getElem_of_mem h
  exact ⟨i, hi, by rw [List.getElem?_eq_getElem hi, Option.getD_some, e]⟩
theorem Cut.start {v : Int} {xs : List Int} (h : rsB v xs = true) : Cut xs 0 0 :=
  ⟨Nat.zero_le _, fun i hi => absurd hi (Nat.not_lt_zero _), fun i _ hi => by
    have := ((rsB_iff.1 h).2 _ (get_mem' hi)).1
    simpa using this⟩
theorem Cut.in {v : Int} {xs : List Int} {p k : Nat} (h : Cut xs p k) (hr : rsB v xs = true) (hk : k < xs.length) (e : xs[k]?.getD 0 = p) : Cut xs (p + 1) (k + 1) ∧ hasB xs p = true := by
  refine ⟨⟨hk, fun i hi => ?_, fun i h1 h2 => ?_⟩, hasB_iff.2 (by rw [← e]; exact get_mem' hk)⟩
  · by_cases e2 : i = k
    · subst e2; omega
    · have := h.lo i (by omega); omega
  · have h3 := List.pairwise_iff_getElem.1 (rsB_iff.1 hr).1 k i hk h2 (by omega)
    rw [List.getElem?_eq_getElem hk, Option.getD_some] at e
    rw [List.getElem?_eq_getElem h2, Option.getD_some]
    omega
theorem Cut.out {xs : List Int} {p k : Nat} (h : Cut xs p k) (e : ¬ (k < xs.length ∧ xs[k]?.getD 0 = p)) (hu : xs.Pairwise (· < ·)) : Cut xs (p + 1) k ∧ hasB xs p = false := by
  have key : ∀ i, k ≤ i → i < xs.length → (p : Int) < xs[i]?.getD 0 := fun i h1 h2 => by
    have h3 := h.hi k (Nat.le_refl _) (by omega)
    have h4 : xs[k]?.getD 0 ≠ p := fun e2 => e ⟨by omega, e2⟩
    by_cases e2 : i = k
    · subst e2; omega
    · have h5 := List.pairwise_iff_getElem.1 hu k i (by omega) h2 (by omega)
      rw [List.getElem?_eq_getElem (by omega), Option.getD_some] at h3 h4
      rw [List.getElem?_eq_getElem h2, Option.getD_some]
      omega
  refine ⟨⟨h.le, fun i hi => by have := h.lo i hi; omega, fun i h1 h2 => by have := key i h1 h2; omega⟩, Bool.eq_false_iff.2 fun hb => ?_⟩
  obtain ⟨i, hi, e2⟩ := getD_mem (hasB_iff.1 hb)
  by_cases h1 : i < k
  · have := h.lo i h1; omega
  · have := key i (by omega) hi; omega
theorem Sl.tail {K : IntKind} {w : World} {g o n c : Nat} {xs : List Int} (h : Sl K w (.slice (some ⟨g, o, none⟩) (n + 1) c) xs) (hn : xs.length = n + 1) {c' : Nat} (hc : n ≤ c') (hm : c' ≤ maxLen) : Sl K w (.slice (some ⟨g, o + 1, none⟩) n c') (xs.drop 1) := by
  refine ⟨some ⟨g, o + 1, none⟩, c', by rw [List.length_drop, hn]; rfl, by rw [List.length_drop, hn]; exact hc, hm, fun i hi => ?_⟩
  rw [List.length_drop, hn] at hi
  obtain ⟨h1, h2⟩ := h.at hn (i := i + 1) (by omega)
  refine ⟨g, o + 1, rfl, h1, ?_⟩
  rw [List.getElem?_drop, show o + 1 + i = o + (i + 1) by omega, show 1 + i = i + 1 by omega]
  exact h2
set_option maxRecDepth 20000 in
set_option maxHeartbeats 8000000 in
theorem complement_any (v : Int) (ao : Option Addr) (rows : List (List Int)) (cap : Nat) (w : World) (h : Sls w ao rows) (hcap : rows.length ≤ cap) (hmax : cap ≤ maxLen) :
    Calls Tryz.prog 9 #[.int .i64 v, .slice ao rows.length cap] w (CmRet v rows ((List.range rows.length).map fun j => fL v.toNat fun x => !hasB (rows[j]?.getD []) (x : Nat)) w) := by
  have HCK := Kept.mk (check_any v ao rows cap w h hcap hmax)
  obtain ⟨pa, pb, pc, pd, pe, hpv⟩ := ckV_form v rows
  have HC := Kept.mk h
  have HOK := Kept.mk (fun he : ckE v rows = 0 => ckE_ok he)
  have heb := ckE_le v rows
  obtain ⟨D, hD⟩ : ∃ D, (fun j : Nat => fL v.toNat fun x => !hasB (rows[j]?.getD []) (x : Nat)) = D := ⟨_, rfl⟩
  have HD : Kept (∀ j, D j = fL v.toNat fun x => !hasB (rows[j]?.getD []) (x : Nat)) := ⟨fun j => by rw [← hD]⟩
  rw [hD]
  have HY : Kept (∀ w' ao2 cap2, Below w.heap.size w w' → ckE v rows = 0 → rows.length ≤ cap2 → cap2 ≤ maxLen → Sls w' ao2 ((List.range rows.length).map D) → CmRet v rows ((List.range rows.length).map D) w (.returned (.tuple #[.slice ao2 rows.length cap2, .int .i64 0])) w') := ⟨fun w' ao2 cap2 hb h0 h1 h2 h3 => ⟨hb, .inl ⟨h0, ao2, cap2, by rw [List.length_map, List.length_range], by simpa using h1, h2, h3⟩⟩⟩
  have HNO : Kept (∀ w', Below w.heap.size w w' → ckE v rows ≠ 0 → CmRet v rows ((List.range rows.length).map D) w (.returned (.tuple #[.slice none 0 0, .int .i64 (ckE v rows : Nat)])) w') := ⟨fun w' hb h0 => ⟨hb, .inr ⟨h0, rfl⟩⟩⟩
  obtain ⟨CR, hCR⟩ : ∃ P, CmRet v rows ((List.range rows.length).map D) w = P := ⟨_, rfl⟩
  rw [hCR] at HY HNO ⊢
  obtain ⟨E, hE⟩ : ∃ E, ckE v rows = E := ⟨_, rfl⟩
  rw [hE, hpv] at HCK
  rw [hE] at HOK HY HNO heb
  obtain ⟨n, hN⟩ : ∃ n, rows.length = n := ⟨_, rfl⟩
  rw [hN] at hcap HCK HY ⊢
  have HN := Kept.mk hN
  unfold maxLen at hmax
  clear h hD hN hpv hCR hE
  by_cases hE0 : E = 0
  · subst hE0
    obtain ⟨⟨hv3, hv2⟩, hr2, hab, _⟩ := HOK.out rfl
    obtain ⟨u, rfl⟩ : ∃ u : Nat, v = u := ⟨v.toNat, by omega⟩
    have HAB := Kept.mk (abB_iff.1 hab)
    rw [HN.out] at hr2
    have hn0 : 0 < n := by
      rw [← HN.out]
      exact List.length_pos_iff.2 HAB.out.1
    have hmk := run_make_row' (P := Tryz.prog) 22 40 (.slice none 0 0) 24 Tryz.underlying22 info_rows rfl .i64 .i64 n (by omega) (by omega)
    clear hab heb
    go_enter Tryz.func9, Tryz.ntmps9
    go_wp2_with fail
    refine HCK.out.mono ?_
    rintro e w0 ⟨hb0, rfl⟩
    have HB0 := Kept.mk (hb0.alloc hb0.size (prbox pa pb pc pd pe))
    obtain ⟨w1, hw1⟩ : ∃ W, w0.alloc (prbox pa pb pc pd pe) = W := ⟨_, rfl⟩
    rw [hw1] at HB0
    have hb1 := HB0.out
    have HDV0 : Kept (Dev n D w1.heap.size w (fun _ => .slice none 0 0) 0 (w1.alloc (.cells (madeCells #[.slice none 0 0] n) 40))) := ⟨⟨Vrow.new w1 n, fun j hj => absurd hj (Nat.not_lt_zero _), fun _ _ _ => rfl, hb1.alloc hb1.size _, hb1.size⟩⟩
    clear hb0 hb1
    go_wp2
    go_loopw [26] (fun iv wr => ∃ (i : Nat) (R : Nat → Value), i ≤ n ∧ iv = .int .i64 i ∧ Kept (Dev n D w1.heap.size w R i wr ∧ (i < n → R i = .slice none 0 0))) (fun iv _ => n - (intOf iv).toNat)
    case atStart => exact ⟨0, _, Nat.zero_le _, rfl, ⟨HDV0.out, fun _ => rfl⟩⟩
    case round =>
      obtain ⟨i, R0, hiu, rfl, hdv⟩ := hrel
      by_cases hiv : i < n
      · obtain ⟨g, o, rv, rfl, hg, hcell, hs⟩ := HC.out i (by rw [HN.out]; exact hiv)
        have rc := (hdv.out.1.bel.cell (p := ⟨g, o + i, none⟩) hg).trans hcell
        have HDJ := Kept.mk (HD.out i)
        obtain ⟨xs, hxs⟩ : ∃ xs, rows[i]?.getD [] = xs := ⟨_, rfl⟩
        have hxm : xs ∈ rows := by rw [← hxs]; exact row_mem (by rw [HN.out]; exact hiv)
        have HXR := Kept.mk (HAB.out.2.1 xs hxm).2
        have hm0 : xs.length ≤ 200 := by
          have h1 := (HAB.out.2.1 xs hxm).1
          have h2 := HAB.out.2.2.2
          omega
        rw [hxs] at hs HDJ
        rw [Int.toNat_natCast] at HDJ
        have HS0 : Kept (Sl .i64 w rv (xs.drop 0)) := ⟨by simpa using hs⟩
        obtain ⟨ra, rcp, rfl, hrc1, hrc2⟩ := hs.form
        obtain ⟨m, hm⟩ : ∃ m, xs.length = m := ⟨_, rfl⟩
        rw [hm] at rc HS0 hm0
        have HM := Kept.mk hm
        have HDI0 : Kept (Dvi n D w1.heap.size w wr.heap.size R0 i (fL 0 fun x => !hasB xs (x : Nat)) wr) := ⟨hdv.out.1.start (hdv.out.2 hiv)⟩
        obtain ⟨wz, hwz⟩ : ∃ W, W = wr := ⟨_, rfl⟩
        subst hwz
        obtain ⟨B, hB⟩ : ∃ B, wz.heap.size = B := ⟨_, rfl⟩
        rw [hB] at HDI0
        clear hB hdv hcell hs hrc1 hrc2 hxs hxm hm
        go_wp2
        go_loopw [10, 32] (fun bv pv wr => ∃ (p k : Nat) (R : Nat → Value), p ≤ u ∧ pv = .int .i64 p ∧ Kept (Cut xs p k) ∧ Kept (Sl .i64 w bv (xs.drop k)) ∧ Kept (Dvi n D w1.heap.size w B R i (fL p fun x => !hasB xs (x : Nat)) wr)) (fun _ pv _ => u - (intOf pv).toNat)
        case atStart => exact ⟨0, 0, _, Nat.zero_le _, rfl, ⟨Cut.start HXR.out⟩, HS0, HDI0⟩
        case round =>
          obtain ⟨p, k, R, hpu, rfl, hct, hsl, HDI⟩ := hrel
          by_cases hlp : p < u
          · obtain ⟨ba, bc, hbv, hbc1, hbc2⟩ := hsl.out.form
            rw [List.length_drop, HM.out] at hbv hbc1
            subst hbv
            unfold maxLen at hbc2
            have hkm : k ≤ m := by rw [← HM.out]; exact hct.out.le
            have hfs := fL_succ p (fun x => !hasB xs (x : Nat))
            have hfl := fL_len p (fun x => !hasB xs (x : Nat))
            obtain ⟨ys, hys⟩ : ∃ ys, fL p (fun x => !hasB xs (x : Nat)) = ys := ⟨_, rfl⟩
            rw [hys] at HDI hfs hfl
            obtain ⟨ra2, rc2, hRi, _, _⟩ := HDI.out.now.sl.form
            obtain ⟨yl, hyl⟩ : ∃ yl, ys.length = yl := ⟨_, rfl⟩
            rw [hyl] at hRi hfl
            clear hys
            by_cases hk : k < m
            · obtain ⟨q, hq⟩ : ∃ q, m - k = q + 1 := ⟨m - k - 1, by omega⟩
              rw [hq] at hsl hbc1 ⊢
              obtain ⟨g2, o2, rfl, hg2, hcl⟩ : ∃ g2 o2, ba = some ⟨g2, o2, none⟩ ∧ g2 < w.heap.size ∧ w.cell? ⟨g2, o2, none⟩ = some (.int .i64 (xs[k]?.getD 0)) := by
                obtain ⟨ao', c', e, _, _, hx⟩ := hsl.out
                simp only [Value.slice.injEq] at e
                obtain ⟨b, o', e2, h1, h2⟩ := hx 0 (by rw [List.length_drop, HM.out]; omega)
                rw [List.getElem?_drop, Nat.add_zero, Nat.add_zero] at h2
                exact ⟨b, o', by rw [e.1, e2], h1, h2⟩
              obtain ⟨a, ha⟩ : ∃ a, xs[k]?.getD 0 = a := ⟨_, rfl⟩
              rw [ha] at hcl
              have ic := (HDI.out.dev.bel.cell (p := ⟨g2, o2, none⟩) hg2).trans hcl
              have e0 : decide (((q + 1 : Nat) : Int) > 0) = true := decide_eq_true (by omega)
              have e0' : decide ((q : Int) + 1 > 0) = true := decide_eq_true (by omega)
              by_cases hap : a = p
              · have e1 : (a == (p : Int)) = true := beq_iff_eq.2 hap
                have HCT := Kept.mk (hct.out.in HXR.out (by rw [HM.out]; exact hk) (by rw [ha, hap]))
                clear ha hap hcl
                have HA1 : Kept (fL (p + 1) (fun x => !hasB xs (x : Nat)) = ys) := ⟨by rw [hfs, HCT.out.2]; rfl⟩
                have HCT1 := Kept.mk HCT.out.1
                clear hfs HCT hRi
                by_cases hc1 : bc = 1
                · subst hc1
                  have HQ0 : Kept (q = 0) := ⟨by omega⟩
                  obtain rfl : q = 0 := by omega
                  have HSN : Kept (∀ a0 c0, c0 ≤ maxLen → Sl .i64 w (.slice a0 0 c0) (xs.drop (k + 1))) := ⟨fun a0 c0 hc0 => ⟨a0, c0, by rw [List.length_drop, HM.out, show m - (k + 1) = 0 by omega], by rw [List.length_drop, HM.out]; omega, hc0, fun j hj => by rw [List.length_drop, HM.out] at hj; omega⟩⟩
                  go_wp2
                  go_roundw
                  case rel => exact ⟨p + 1, k + 1, _, by omega, by go_num, HCT1, ⟨HSN.out _ _ (by unfold maxLen; omega)⟩, ⟨by rw [HA1.out]; exact HDI.out⟩⟩
                  case measure => simp [intOf] <;> omega
                · have HSN : Kept (Sl .i64 w (.slice (some ⟨g2, o2 + 1, none⟩) q (bc - 1)) (xs.drop (k + 1))) := ⟨by
                    have := hsl.out.tail (by rw [List.length_drop, HM.out]; omega) (c' := bc - 1) (by omega) (by unfold maxLen; omega)
                    rw [List.drop_drop] at this
                    exact this⟩
                  have hcb : ((1 : Nat) : Int) ≤ (bc : Int) := by omega
                  have hcc' : ¬ ((bc : Int) = 1) := by omega
                  have hcc2 : 1 < bc := by omega
                  go_wp2
                  go_roundw
                  case rel => exact ⟨p + 1, k + 1, _, by omega, by go_num, HCT1, HSN, ⟨by rw [HA1.out]; exact HDI.out⟩⟩
                  case measure => simp [intOf] <;> omega
              · have e1 : (a == (p : Int)) = false := beq_eq_false_iff_ne.2 hap
                have HCT := Kept.mk (hct.out.out (fun h => hap (by rw [← ha]; exact h.2)) (rsB_iff.1 HXR.out).1)
                clear ha hap hcl
                have HA1 : Kept (fL (p + 1) (fun x => !hasB xs (x : Nat)) = ys ++ [(p : Int)]) := ⟨by rw [hfs, HCT.out.2]; rfl⟩
                have HCT1 := Kept.mk HCT.out.1
                have HHI := Kept.mk (HDI.out.alloc (.cells #[.int .i64 (p : Int)] 3))
                have c0 := HDI.out.dev.row.cell hiv
                rw [hRi] at c0
                have c1 := HHI.out.dev.row.cell hiv
                rw [hRi] at c1
                have HRI := Kept.mk hRi
                have HNW := Kept.mk (new_one (K := .i64) (x := (p : Int)) (w := wr.alloc (.cells #[.int .i64 (p : Int)] 3)) (b := wr.heap.size) (o := 0) (by exact (Row.new (E := 3) (K := .i64) wr [(p : Int)]).cell (i := 0) (by simp)))
                have H1 := Kept.mk (show (ys.length + [(p : Int)].length) * 8 ≤ 140737488355328 by rw [hyl]; simp; omega)
                have H2 := Kept.mk (show ys.length + [(p : Int)].length ≤ maxLen by rw [hyl]; unfold maxLen; simp; omega)
                have HL5 : Kept ((ys ++ [(p : Int)]).length = yl + 1) := ⟨by simp [hyl]⟩
                have HMA : Kept (Mine 3 .i64 B (wr.alloc (.cells #[.int .i64 (p : Int)] 3)) (.slice ra2 yl rc2) ys) := ⟨by have := HHI.out.now; rw [hRi] at this; exact this⟩
                have hiv' : (i : Int) < (n : Int) := by omega
                clear hfs hRi HCT
                go_wp2_with (at_builtin; refine wpList_append_mine _ rfl _ _ 40 rfl 3 .i64 8 Tryz.underlying40 info_i64 B _ ys rfl HMA.out HHI.out.bs ⟨wr.heap.size, 0, none⟩ 1 1 [(p : Int)] rfl rfl HNW.out H1.out H2.out ?_)
                intro v' w5 hM5 hg5 hn5
                obtain ⟨va, vc, hv5, _, _⟩ := hM5.sl.form
                rw [HL5.out] at hv5
                subst hv5
                have HN5 := Kept.mk (HHI.out.next hiv hM5 (by rw [HRI.out]; exact hg5))
                have c2 := (HHI.out.dev.row.grown hg5 (by rw [← HRI.out]; exact fun e => by have := (HHI.out.now.own _ e).1; have := HHI.out.gb; omega)).cell hiv
                have c3 := (HHI.out.dev.row.grown hg5 (by rw [← HRI.out]; exact fun e => by have := (HHI.out.now.own _ e).1; have := HHI.out.gb; omega)).free i
                clear hM5 hg5 hn5
                go_wp2
                go_roundw
                case rel => exact ⟨p + 1, k, _, by omega, by go_num, HCT1, hsl, ⟨by rw [HA1.out]; exact HN5.out⟩⟩
                case measure => simp [intOf] <;> omega
            · have hq : m - k = 0 := by omega
              rw [hq] at hsl hbc1 ⊢
              have HCT := Kept.mk (hct.out.out (fun h => by have := h.1; rw [HM.out] at this; omega) (rsB_iff.1 HXR.out).1)
              have HA1 : Kept (fL (p + 1) (fun x => !hasB xs (x : Nat)) = ys ++ [(p : Int)]) := ⟨by rw [hfs, HCT.out.2]; rfl⟩
              have HCT1 := Kept.mk HCT.out.1
              have HHI := Kept.mk (HDI.out.alloc (.cells #[.int .i64 (p : Int)] 3))
              have c0 := HDI.out.dev.row.cell hiv
              rw [hRi] at c0
              have c1 := HHI.out.dev.row.cell hiv
              rw [hRi] at c1
              have HRI := Kept.mk hRi
              have HNW := Kept.mk (new_one (K := .i64) (x := (p : Int)) (w := wr.alloc (.cells #[.int .i64 (p : Int)] 3)) (b := wr.heap.size) (o := 0) (by exact (Row.new (E := 3) (K := .i64) wr [(p : Int)]).cell (i := 0) (by simp)))
              have H1 := Kept.mk (show (ys.length + [(p : Int)].length) * 8 ≤ 140737488355328 by rw [hyl]; simp; omega)
              have H2 := Kept.mk (show ys.length + [(p : Int)].length ≤ maxLen by rw [hyl]; unfold maxLen; simp; omega)
              have HL5 : Kept ((ys ++ [(p : Int)]).length = yl + 1) := ⟨by simp [hyl]⟩
              have HMA : Kept (Mine 3 .i64 B (wr.alloc (.cells #[.int .i64 (p : Int)] 3)) (.slice ra2 yl rc2) ys) := ⟨by have := HHI.out.now; rw [hRi] at this; exact this⟩
              have hiv' : (i : Int) < (n : Int) := by omega
              clear hfs hRi HCT
              go_wp2_with (at_builtin; refine wpList_append_mine _ rfl _ _ 40 rfl 3 .i64 8 Tryz.underlying40 info_i64 B _ ys rfl HMA.out HHI.out.bs ⟨wr.heap.size, 0, none⟩ 1 1 [(p : Int)] rfl rfl HNW.out H1.out H2.out ?_)
              intro v' w5 hM5 hg5 hn5
              obtain ⟨va, vc, hv5, _, _⟩ := hM5.sl.form
              rw [HL5.out] at hv5
              subst hv5
              have HN5 := Kept.mk (HHI.out.next hiv hM5 (by rw [HRI.out]; exact hg5))
              have c2 := (HHI.out.dev.row.grown hg5 (by rw [← HRI.out]; exact fun e => by have := (HHI.out.now.own _ e).1; have := HHI.out.gb; omega)).cell hiv
              have c3 := (HHI.out.dev.row.grown hg5 (by rw [← HRI.out]; exact fun e => by have := (HHI.out.now.own _ e).1; have := HHI.out.gb; omega)).free i
              clear hM5 hg5 hn5
              go_wp2
              go_roundw
              case rel => exact ⟨p + 1, k, _, by omega, by go_num, HCT1, hsl, ⟨by rw [HA1.out]; exact HN5.out⟩⟩
              case measure => simp [intOf] <;> omega
          · obtain rfl : p = u := by omega
            have HDD : Kept (Dev n D w1.heap.size w R (i + 1) wr ∧ (i + 1 < n → R (i + 1) = .slice none 0 0)) := ⟨HDI.out.done (by have := HDI.out.now; rw [← HDJ.out] at this; exact this) (growRefl _ _), fun h => HDI.out.dev.nil (i + 1) (by omega) h⟩
            go_wp2
            go_roundw
            case rel => exact ⟨i + 1, R, by omega, by go_num, HDD⟩
            case measure => simp [intOf] <;> omega
      · obtain rfl : i = n := by omega
        have HF := Kept.mk (HY.out wr _ i hdv.out.1.bel trivial (Nat.le_refl _) (by unfold maxLen; omega) hdv.out.1.sls)
        go_wp2
        exact HF.out
  · have eE : ((E : Int) != 0) = true := by rw [bne_iff_ne]; omega
    go_enter Tryz.func9, Tryz.ntmps9
    go_wp2_with fail
    refine HCK.out.mono ?_
    rintro e w0 ⟨hb0, rfl⟩
    have HF := Kept.mk (HNO.out _ (hb0.alloc hb0.size (prbox pa pb pc pd pe)) hE0)
    clear hb0
    go_wp2
    exact HF.out
end Go.Proofs.YtalahdkhglagpaaGreatDoor
