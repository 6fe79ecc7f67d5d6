import Derived.Test.YtfhhnfpapgfnmaaEch
import Derived.Test.YtfhhnfpapgfnmaaShp
import Derived.Test.YtfhhnfpapgfnmaaZOpl
import Derived.Test.YtfhhnfpapgfnmaaTam
import Derived.Test.YtfhhnfpapgfnmaaZLca
set_option linter.unusedVariables false
set_option linter.unusedSimpArgs false
namespace Go.Proofs.Ytfhhnfpapgfnmaa
open Go Go.RowKit Go.Deep
open FFld (ints)
set_option maxRecDepth 20000 in
set_option maxHeartbeats 2000000 in
/-- What is no equations is not denied by anything. -/
theorem fdenies_bad {D : FFld.FD} {b : Nat} (rows : List (List Int)) (ao : Option Addr) (cap : Nat) (vb : Value) (bl : List Int) (ww : Option Addr) (wn wc : Nat) (w : World) (hf : FldB D w b) (h : Sls w ao rows) (hcap : rows.length ≤ cap) (hmax : cap ≤ maxLen) (hb : Sl .i64 w vb bl) (hq : qErr D rows bl ≠ 0) :
    Calls Try.prog 48 #[.pointer (some ⟨b, 0, none⟩), .slice ao rows.length cap, vb, .slice ww wn wc] w (fun e w' => w = w' ∧ e = .returned (.bool false)) := by
  have HC := Kept.mk (checkEquations_any rows ao cap vb bl w hf h hcap hmax hb)
  obtain ⟨q, hqq⟩ : ∃ q, qErr D rows bl = q := ⟨_, rfl⟩
  rw [hqq] at HC hq
  have e0 : ((q : Int) == 0) = false := by rw [beq_eq_false_iff_ne]; omega
  have e00 : ((q : Int) != 0) = true := by rw [bne_iff_ne]; omega
  clear hf h hb hq hqq
  go_enter Try.func48, Try.ntmps48
  go_wp2_with fail
  refine HC.out.mono ?_
  rintro e w2 ⟨rfl, rfl⟩
  go_wp2
  go_ret
  exact ⟨rfl, rfl⟩
/-- Numbers that are elements. -/
theorem els_nat {D : FFld.FD} {xs : List Int} (h : elsB D xs = true) : xs = ints (xs.map Int.toNat) ∧ ∀ a ∈ xs.map Int.toNat, a < D.p ^ D.k := by
  have h' : ∀ x ∈ xs, 0 ≤ x ∧ x < (D.q : Int) := fun x hx => by
    have := List.all_eq_true.1 h x hx
    simpa using this
  have hq : D.q = D.p ^ D.k := rfl
  constructor
  · unfold ints
    rw [List.map_map]
    conv => lhs; rw [← List.map_id xs]
    refine List.map_congr_left fun x hx => ?_
    have := h' x hx
    simp only [Function.comp, id]
    omega
  · intro a ha
    obtain ⟨x, hx, rfl⟩ := List.mem_map.1 ha
    have := h' x hx
    rw [← hq]
    omega
/-- A matrix without an error. -/
theorem rows_nat {D : FFld.FD} {rows : List (List Int)} (h : mErr D rows = 0) : ∃ rn : List (List Nat), rows = rn.map ints ∧ FFld.Wfm D (rlen rows 0) rn ∧ rows.length ≤ 64 ∧ rlen rows 0 ≤ 64 := by
  unfold mErr at h
  by_cases h0 : rows.length = 0
  · obtain rfl := List.eq_nil_of_length_eq_zero h0
    exact ⟨[], rfl, fun r hr => by simp at hr, by simp, by simp [rlen]⟩
  · rw [if_neg h0] at h
    by_cases h1 : 64 < rows.length ∨ 64 < rlen rows 0
    · rw [if_pos h1] at h; cases h
    · rw [if_neg h1] at h
      by_cases h2 : rows.all (fun r => r.length == rlen rows 0) = true
      · rw [if_pos h2] at h
        by_cases h3 : rows.all (elsB D) = true
        · refine ⟨rows.map (·.map Int.toNat), ?_, fun r hr => ?_, by omega, by omega⟩
          · rw [List.map_map]
            conv => lhs; rw [← List.map_id rows]
            exact List.map_congr_left fun r hr => (els_nat (List.all_eq_true.1 h3 r hr)).1
          · obtain ⟨l, hl, rfl⟩ := List.mem_map.1 hr
            have e := List.all_eq_true.1 h2 l hl
            simp only [beq_iff_eq] at e
            exact ⟨by rw [List.length_map]; exact e, (els_nat (List.all_eq_true.1 h3 l hl)).2⟩
        · rw [if_neg h3] at h; cases h
      · rw [if_neg h2] at h; cases h
theorem qErr_parts {D : FFld.FD} {rows : List (List Int)} {bl : List Int} : (mErr D rows ≠ 0 → qErr D rows bl = mErr D rows) ∧ (mErr D rows = 0 → bl.length ≠ rows.length → qErr D rows bl = 7) ∧ (mErr D rows = 0 → bl.length = rows.length → elsB D bl = false → qErr D rows bl = 1) ∧ (mErr D rows = 0 → bl.length = rows.length → elsB D bl = true → qErr D rows bl = 0) := by
  refine ⟨fun h => by unfold qErr; rw [if_neg h], fun h h2 => by unfold qErr; rw [if_pos h, if_neg h2], fun h h2 h3 => ?_, fun h h2 h3 => ?_⟩
  · unfold qErr; rw [if_pos h, if_pos h2, h3]; rfl
  · unfold qErr; rw [if_pos h, if_pos h2, h3]; rfl
set_option maxRecDepth 20000 in
set_option maxHeartbeats 8000000 in
theorem fieldMatrices_any (order : Int) (ao : Option Addr) (rows : List (List Int)) (cap : Nat) (vb : Value) (bs : List Int) (w : World) (o0 : -9223372036854775808 ≤ order) (o1 : order ≤ 9223372036854775807) (hcap : rows.length ≤ cap) (hmax : cap ≤ maxLen) (hr : Sls w ao rows) (hrb : ∀ l ∈ rows, I64s l) (hs : Sl .i64 w vb bs) (hbd : I64s bs) :
    Calls Try.prog 11 #[.int .i64 order, .slice ao rows.length cap, vb] w (RB w (.bool true)) := by
  obtain ⟨ab0, cb0, hv0, hcb0, hmb0⟩ := hs.form
  subst hv0
  go_enter Try.func11, Try.ntmps11
  go_wp2_with fail
  refine (some_any order 300 w o0 o1 (by omega) (by omega)).mono ?_
  rintro e w1 ⟨hb1, D, b, hD, hle, hbl, hf, rfl⟩
  have HB1 := Kept.mk hb1
  have HF1 := Kept.mk hf
  have HD := Kept.mk hD
  have hq0 : D.q = D.p ^ D.k := rfl
  have hq6 := hD.pre.small
  have hq1 := hD.pre.pk.one_lt
  rw [← hq0] at hq1
  have hbx : Below w1.heap.size w1 (w1.alloc (rbox D.q D.p D.k D.m)) := (Below.refl _ _).alloc (Nat.le_refl _) _
  obtain ⟨i0, i1, i2, i3⟩ := four_cells (heap_alloc_new w1 (rbox D.q D.p D.k D.m))
  have HX := Kept.mk hbx
  have hns : w1.heap.size < (w1.alloc (rbox D.q D.p D.k D.m)).heap.size := by simp
  have HS := Kept.mk ((hs.below hb1).below hbx)
  have HR := Kept.mk ((hr.below hb1).below hbx)
  clear hb1 hf hD hbx hq0 hs hbd hr hrb
  have HF := Kept.mk (HF1.out.below HX.out)
  have HB := Kept.mk (bstep HB1.out HX.out)
  have hm0 := hmax
  unfold maxLen at hm0
  clear HF1 HB1
  go_wp2_with fail
  refine (matrix_any ao rows cap 65 _ hcap hmax HR.out (by omega)).mono ?_
  rintro e w2 ⟨hb2, vm, L, rfl, hrw, hLm⟩
  obtain ⟨am, cm, rfl, hcm, hmm, hsls⟩ := hrw.sls
  rw [hLm] at hsls
  obtain ⟨m, hm⟩ : ∃ m, cutR rows 65 = m := ⟨_, rfl⟩
  rw [hm] at hsls hLm
  have hLn : L.length = m.length := by rw [← hLm, List.length_map]
  have HCM := Kept.mk hm
  rw [hLn] at hcm ⊢
  have HM := Kept.mk hsls
  replace HS := Kept.mk (HS.out.below hb2)
  replace HF := Kept.mk (HF.out.below hb2)
  replace HB := Kept.mk (bstep HB.out hb2)
  have j0 := belowCell hb2 i0
  have j1 := belowCell hb2 i1
  have j2 := belowCell hb2 i2
  have j3 := belowCell hb2 i3
  clear hb2 hrw hsls hLm hm hLn i0 i1 i2 i3 HR HX hcap hmax hm0
  obtain ⟨bl, hbl⟩ : ∃ l, bs.take 70 = l := ⟨_, rfl⟩
  have HBL := Kept.mk hbl
  obtain ⟨n, hn⟩ : ∃ n, m.length = n := ⟨_, rfl⟩
  have HMN := Kept.mk hn
  have HSH := Kept.mk (fun W (hW : Sls W am m) => rshape_any D am m cm W hcm hmm hW)
  have hmm0 := hmm
  unfold maxLen at hmm0
  have hn65 : n ≤ 65 := by
    rw [← hn, ← HCM.out]
    unfold cutR
    rw [List.length_map, List.length_take]
    omega
  rw [hn] at HSH hcm ⊢
  clear hbl
  go_wp2_with fail
  refine (HSH.out _ HM.out).mono ?_
  rintro e w3 ⟨hb3, rfl⟩
  replace HM := Kept.mk (HM.out.below hb3)
  replace HS := Kept.mk (HS.out.below hb3)
  replace HF := Kept.mk (HF.out.below hb3)
  replace HB := Kept.mk (bstep HB.out hb3)
  replace j0 := belowCell hb3 j0
  replace j1 := belowCell hb3 j1
  replace j2 := belowCell hb3 j2
  replace j3 := belowCell hb3 j3
  obtain ⟨g8, hg8⟩ : ∃ g, w1.heap.size = g := ⟨_, rfl⟩
  rw [hg8] at j0 j1 j2 j3 ⊢
  clear hb3 HSH hg8 hns
  have hqp := qErr_parts (D := D) (rows := m) (bl := bl)
  obtain ⟨c, hc⟩ : ∃ c, mErr D m = c := ⟨_, rfl⟩
  have hc7 : c ≤ 7 := by rw [← hc]; exact mErr_le _ _
  rw [hc, hn] at hqp
  rw [hc]
  have HC := Kept.mk hc
  clear hc hn
  have ecc : ((c : Int) == (c : Int)) = true := by simp
  by_cases hc0 : c = 0
  · subst hc0
    have HQP := Kept.mk hqp
    clear hqp
    obtain ⟨rn, hrn, hwf, h64, hwd⟩ := rows_nat HC.out
    rw [HMN.out] at h64
    have HRN := Kept.mk hrn
    have hlen : rn.length = n := by rw [← HMN.out, hrn, List.length_map]
    have HWF := Kept.mk hwf
    have hz : n = 0 → rlen m 0 = 0 := fun h => rlen_zero (by rw [HMN.out]; exact h)
    have HZ := Kept.mk hz
    have HLEN := Kept.mk hlen
    obtain ⟨wd, hwdd⟩ : ∃ wd, rlen m 0 = wd := ⟨_, rfl⟩
    rw [hwdd] at HWF HZ hwd
    have ezz : (((0 : Nat) : Int) == 0) = true := rfl
    clear hrn hwf hlen hz hwdd
    go_wp2_with fail
    refine (echelon_any HD.out rn am cm wd n _ HF.out (by rw [← HRN.out]; exact HM.out) hcm hmm HLEN.out h64 HWF.out hwd HZ.out).mono ?_
    rintro e w4 ⟨hb4, G, rfl, _⟩
    replace HM := Kept.mk (HM.out.below hb4)
    replace HS := Kept.mk (HS.out.below hb4)
    replace HF := Kept.mk (HF.out.below hb4)
    replace HB := Kept.mk (bstep HB.out hb4)
    replace j0 := belowCell hb4 j0
    replace j1 := belowCell hb4 j1
    replace j2 := belowCell hb4 j2
    replace j3 := belowCell hb4 j3
    clear hb4
    go_wp2_with fail
    refine (raw_any _ bs 70 _ HS.out (by omega)).mono ?_
    rintro e w5 ⟨hb5, vr5, rfl, hmr5⟩
    rw [HBL.out] at hmr5
    have HSB := Kept.mk hmr5.sl
    obtain ⟨ar5, cr5, rfl, hcr5, hmx5⟩ := hmr5.sl.form
    replace HM := Kept.mk (HM.out.below hb5)
    replace HS := Kept.mk (HS.out.below hb5)
    replace HF := Kept.mk (HF.out.below hb5)
    replace HB := Kept.mk (bstep HB.out hb5)
    replace j0 := belowCell hb5 j0
    replace j1 := belowCell hb5 j1
    replace j2 := belowCell hb5 j2
    replace j3 := belowCell hb5 j3
    clear hb5
    clear hmr5
    by_cases hbn : bl.length = n
    · obtain ⟨t, ht⟩ : ∃ t, elsB D bl = t := ⟨_, rfl⟩
      cases t with
      | true =>
        have hq : qErr D m bl = 0 := HQP.out.2.2.2 (by first | rfl | trivial) hbn ht
        obtain ⟨hbi, hbq⟩ := els_nat ht
        obtain ⟨bn, hbn2⟩ : ∃ l, bl.map Int.toNat = l := ⟨_, rfl⟩
        rw [hbn2] at hbi hbq
        have hbnl : bn.length = n := by rw [← hbn, ← hbn2, List.length_map]
        have HBI := Kept.mk hbi
        have HBQ := Kept.mk hbq
        have HT := Kept.mk ht
        rw [hbn] at HSB ⊢
        have enn : ((n : Int) == (n : Int)) = true := by simp
        clear hbi hbq hbn2 ht hq
        go_wp2_with fail
        refine (fsolve_any HD.out rn am cm _ bn wd n _ HF.out (by rw [← HRN.out]; exact HM.out) hcm hmm (by rw [← HBI.out]; exact HSB.out) HLEN.out h64 HWF.out hwd HZ.out hbnl HBQ.out).mono ?_
        rintro e w6 ⟨hb6, hcase⟩
        have hcase2 : ∃ (v : Value) (q : Nat), e = .returned (.tuple #[v, .int .i64 (q : Nat)]) := by
          rcases hcase with ⟨i, _, _, _, rfl⟩ | ⟨_, vx, rfl, _⟩
          · exact ⟨_, 4, rfl⟩
          · exact ⟨_, 0, rfl⟩
        obtain ⟨vq, qq, rfl⟩ := hcase2
        clear hcase
        replace HM := Kept.mk (HM.out.below hb6)
        replace HS := Kept.mk (HS.out.below hb6)
        replace HF := Kept.mk (HF.out.below hb6)
        replace HB := Kept.mk (bstep HB.out hb6)
        replace j0 := belowCell hb6 j0
        replace j1 := belowCell hb6 j1
        replace j2 := belowCell hb6 j2
        replace j3 := belowCell hb6 j3
        clear hb6
        go_wp2_with fail
        refine (raw_any _ bs 70 _ HS.out (by omega)).mono ?_
        rintro e w7 ⟨hb7, vr7, rfl, hmr7⟩
        rw [HBL.out] at hmr7
        have HSB := Kept.mk hmr7.sl
        obtain ⟨ar7, cr7, rfl, hcr7, hmx7⟩ := hmr7.sl.form
        replace HM := Kept.mk (HM.out.below hb7)
        replace HS := Kept.mk (HS.out.below hb7)
        replace HF := Kept.mk (HF.out.below hb7)
        replace HB := Kept.mk (bstep HB.out hb7)
        replace j0 := belowCell hb7 j0
        replace j1 := belowCell hb7 j1
        replace j2 := belowCell hb7 j2
        replace j3 := belowCell hb7 j3
        clear hb7
        clear hmr7
        rw [hbn] at HSB ⊢
        go_wp2_with fail
        refine (deny_any HD.out rn am cm _ bn wd n _ HF.out (by rw [← HRN.out]; exact HM.out) hcm hmm (by rw [← HBI.out]; exact HSB.out) HLEN.out h64 HWF.out hwd HZ.out hbnl HBQ.out).mono ?_
        rintro e w8 ⟨hb8, hcase⟩
        have hcase2 : ∃ (v : Value) (q : Bool), e = .returned (.tuple #[v, .bool q]) := by
          rcases hcase with ⟨i, vd, _, _, _, rfl, _⟩ | ⟨_, rfl⟩
          · exact ⟨_, true, rfl⟩
          · exact ⟨_, false, rfl⟩
        obtain ⟨vd, qd, rfl⟩ := hcase2
        clear hcase
        replace HM := Kept.mk (HM.out.below hb8)
        replace HS := Kept.mk (HS.out.below hb8)
        replace HF := Kept.mk (HF.out.below hb8)
        replace HB := Kept.mk (bstep HB.out hb8)
        replace j0 := belowCell hb8 j0
        replace j1 := belowCell hb8 j1
        replace j2 := belowCell hb8 j2
        replace j3 := belowCell hb8 j3
        clear hb8
        go_wp2_with fail
        refine (raw_any _ bs 70 _ HS.out (by omega)).mono ?_
        rintro e w9 ⟨hb9, vr9, rfl, hmr9⟩
        rw [HBL.out] at hmr9
        have HSB := Kept.mk hmr9.sl
        obtain ⟨ar9, cr9, rfl, hcr9, hmx9⟩ := hmr9.sl.form
        replace HM := Kept.mk (HM.out.below hb9)
        replace HS := Kept.mk (HS.out.below hb9)
        replace HF := Kept.mk (HF.out.below hb9)
        replace HB := Kept.mk (bstep HB.out hb9)
        replace j0 := belowCell hb9 j0
        replace j1 := belowCell hb9 j1
        replace j2 := belowCell hb9 j2
        replace j3 := belowCell hb9 j3
        clear hb9
        clear hmr9
        rw [hbn]
        go_wp2
        go_region_held3 (fun w' => w'.cell? ⟨g8, 0, none⟩ = some (.int .i64 D.q) ∧ w'.cell? ⟨g8, 1, none⟩ = some (.int .i64 D.p) ∧ w'.cell? ⟨g8, 2, none⟩ = some (.int .i64 D.k) ∧ w'.cell? ⟨g8, 3, none⟩ = some (.int .i64 D.m))
          (first | exact ⟨l0, l1, l2, l3⟩ | exact ⟨k0, k1, k2, k3⟩ | exact ⟨j0, j1, j2, j3⟩ | go_keep)
          ((first
            | (go_at_call 62; (refine (raw_any _ bs 70 _ (HS.out.below (by first | exact Below.refl _ _ | exact (Below.refl _ _).drew)) (by omega)).mono ?_); rintro e v1 ⟨hb, vr, rfl, hmr⟩; rw [HBL.out] at hmr; have HSR := Kept.mk hmr.sl; have HY1 := Kept.mk (bstep (show Below w9.heap.size w9 _ from (by first | exact Below.refl _ _ | exact (Below.refl _ _).drew)) hb); have k0 := belowCell HY1.out j0; have k1 := belowCell HY1.out j1; have k2 := belowCell HY1.out j2; have k3 := belowCell HY1.out j3; clear hb hmr)
            | (go_at_call 70; (refine (relements_any D _ bl _ HSR.out).mono ?_); rintro e v2 ⟨hb, rfl⟩; have HYE := Kept.mk (bstep HY1.out hb); have l0 := belowCell hb k0; have l1 := belowCell hb k1; have l2 := belowCell hb k2; have l3 := belowCell hb k3; clear hb)))
        rw [HT.out]
        go_wp2_with fail
        refine (awake_any _).mono ?_
        rintro e w12 ⟨hb12, rfl⟩
        replace HB := Kept.mk (bstep (bstep HB.out HYE.out) hb12)
        clear hb12
        go_wp2
        go_ret
        exact ⟨HB.out, rfl⟩
      | false =>
        have hq := HQP.out.2.2.1 (by first | rfl | trivial) hbn ht
        have HQ := Kept.mk hq
        have HT := Kept.mk ht
        have ehb : ((bl.length : Int) == (n : Int)) = true := by rw [hbn]; simp
        rw [hbn] at HSB ⊢
        clear ht hq ehb
        have ehb : ((n : Int) == (n : Int)) = true := by simp
        have HSN := Kept.mk (fun W vb' (hf : FldB D W b) (h : Sls W am m) (hb : Sl .i64 W vb' bl) => show Calls Try.prog 39 #[.pointer (some ⟨b, 0, none⟩), .slice am n cm, vb'] W (fun e w' => W = w' ∧ e = .returned (.tuple #[.slice none 0 0, .int .i64 ((1 : Nat) : Int)])) from by
          have := fsolve_no m am cm vb' bl W hf h (by rw [HMN.out]; exact hcm) hmm hb 1 HQ.out (by omega)
          rw [HMN.out] at this
          exact this)
        have HDY := Kept.mk (fun W vb' (hf : FldB D W b) (h : Sls W am m) (hb : Sl .i64 W vb' bl) => show Calls Try.prog 40 #[.pointer (some ⟨b, 0, none⟩), .slice am n cm, vb'] W (fun e w' => W = w' ∧ e = .returned (.tuple #[.slice none 0 0, .bool false])) from by
          have := deny_no m am cm vb' bl W hf h (by rw [HMN.out]; exact hcm) hmm hb (by rw [HQ.out]; exact (by omega))
          rw [HMN.out] at this
          exact this)
        go_wp2_with fail
        refine (HSN.out _ _ HF.out HM.out HSB.out).mono ?_
        rintro e w6 ⟨rfl, rfl⟩
        go_wp2_with fail
        refine (raw_any _ bs 70 _ HS.out (by omega)).mono ?_
        rintro e w7 ⟨hb7, vr7, rfl, hmr7⟩
        rw [HBL.out] at hmr7
        have HSB := Kept.mk hmr7.sl
        obtain ⟨ar7, cr7, rfl, hcr7, hmx7⟩ := hmr7.sl.form
        replace HM := Kept.mk (HM.out.below hb7)
        replace HS := Kept.mk (HS.out.below hb7)
        replace HF := Kept.mk (HF.out.below hb7)
        replace HB := Kept.mk (bstep HB.out hb7)
        replace j0 := belowCell hb7 j0
        replace j1 := belowCell hb7 j1
        replace j2 := belowCell hb7 j2
        replace j3 := belowCell hb7 j3
        clear hb7
        clear hmr7
        rw [hbn] at HSB ⊢
        go_wp2_with fail
        refine (HDY.out _ _ HF.out HM.out HSB.out).mono ?_
        rintro e w8 ⟨rfl, rfl⟩
        go_wp2_with fail
        refine (raw_any _ bs 70 _ HS.out (by omega)).mono ?_
        rintro e w9 ⟨hb9, vr9, rfl, hmr9⟩
        rw [HBL.out] at hmr9
        have HSB := Kept.mk hmr9.sl
        obtain ⟨ar9, cr9, rfl, hcr9, hmx9⟩ := hmr9.sl.form
        replace HM := Kept.mk (HM.out.below hb9)
        replace HS := Kept.mk (HS.out.below hb9)
        replace HF := Kept.mk (HF.out.below hb9)
        replace HB := Kept.mk (bstep HB.out hb9)
        replace j0 := belowCell hb9 j0
        replace j1 := belowCell hb9 j1
        replace j2 := belowCell hb9 j2
        replace j3 := belowCell hb9 j3
        clear hb9
        clear hmr9
        rw [hbn]
        go_wp2
        go_region_held3 (fun w' => w'.cell? ⟨g8, 0, none⟩ = some (.int .i64 D.q) ∧ w'.cell? ⟨g8, 1, none⟩ = some (.int .i64 D.p) ∧ w'.cell? ⟨g8, 2, none⟩ = some (.int .i64 D.k) ∧ w'.cell? ⟨g8, 3, none⟩ = some (.int .i64 D.m))
          (first | exact ⟨l0, l1, l2, l3⟩ | exact ⟨k0, k1, k2, k3⟩ | exact ⟨j0, j1, j2, j3⟩ | go_keep)
          ((first
            | (go_at_call 62; (refine (raw_any _ bs 70 _ (HS.out.below (by first | exact Below.refl _ _ | exact (Below.refl _ _).drew)) (by omega)).mono ?_); rintro e v1 ⟨hb, vr, rfl, hmr⟩; rw [HBL.out] at hmr; have HSR := Kept.mk hmr.sl; have HY1 := Kept.mk (bstep (show Below w9.heap.size w9 _ from (by first | exact Below.refl _ _ | exact (Below.refl _ _).drew)) hb); have k0 := belowCell HY1.out j0; have k1 := belowCell HY1.out j1; have k2 := belowCell HY1.out j2; have k3 := belowCell HY1.out j3; clear hb hmr)
            | (go_at_call 70; (refine (relements_any D _ bl _ HSR.out).mono ?_); rintro e v2 ⟨hb, rfl⟩; have HYE := Kept.mk (bstep HY1.out hb); have l0 := belowCell hb k0; have l1 := belowCell hb k1; have l2 := belowCell hb k2; have l3 := belowCell hb k3; clear hb)))
        rw [HT.out]
        replace HM := Kept.mk (HM.out.below HYE.out)
        replace HS := Kept.mk (HS.out.below HYE.out)
        replace HF := Kept.mk (HF.out.below HYE.out)
        replace HB := Kept.mk (bstep HB.out HYE.out)
        have j0 := l0
        clear HYE HY1 k0 k1 k2 k3 l0 l1 l2 l3 j1 j2 j3 HSR
        go_wp2
        have hmk := run_make_row' (P := Try.prog) 34 3 (.int .i64 0) 8 Try.underlying34 info_i64 rfl .i64 .i64 n (by omega) (by omega)
        have HDN := Kept.mk (fun W vb' ww wn wc (hf : FldB D W b) (h : Sls W am m) (hb : Sl .i64 W vb' bl) => show Calls Try.prog 48 #[.pointer (some ⟨b, 0, none⟩), .slice am n cm, vb', .slice ww wn wc] W (fun e w' => W = w' ∧ e = .returned (.bool false)) from by
          have := fdenies_bad m am cm vb' bl ww wn wc W hf h (by rw [HMN.out]; exact hcm) hmm hb (by rw [HQ.out]; exact (by omega))
          rw [HMN.out] at this
          exact this)
        go_region_held3 (fun w' => w'.cell? ⟨g8, 0, none⟩ = some (.int .i64 D.q))
          (first | exact j0 | exact m0 | exact k0 | exact l0 | go_keep)
          ((first
            | (go_at_call 62; (refine (raw_any _ bs 70 _ ?h1 (by omega)).mono ?_); (case h1 => first | exact HS.out | exact HS.out.below (Below.refl _ _).drew | exact HS.out.below ((Below.refl _ _).drew.alloc (Nat.le_refl _) _)); rintro e v1 ⟨hb, vr, rfl, hmr⟩; rw [HBL.out] at hmr; have HSR := Kept.mk hmr.sl; have HY1 := Kept.mk (bstep (show Below v2.heap.size v2 _ from (by first | exact Below.refl _ _ | exact (Below.refl _ _).drew | exact (Below.refl _ _).drew.alloc (Nat.le_refl _) _)) hb); have k0 := belowCell HY1.out j0; have hal : ∀ o : Obj, Below v1.heap.size v1 (v1.alloc o) := fun o => (Below.refl _ _).alloc (Nat.le_refl _) _; have l0 := fun o => belowCell (hal o) k0; clear hb hmr)
            | (go_at_call 48; (refine (HDN.out _ _ _ _ _ ?h1 ?h2 ?h3).mono ?_); (case h1 => first | exact HF.out.below HY1.out | exact HF.out.below (bstep HY1.out (hal _))); (case h2 => first | exact HM.out.below HY1.out | exact HM.out.below (bstep HY1.out (hal _))); (case h3 => first | exact HSR.out | exact HSR.out.below (hal _)); rintro e v2 ⟨rfl, rfl⟩)
            | (go_at_call 49; (refine (awake_any _).mono ?_); rintro e v3 ⟨hb, rfl⟩; have HY3 := Kept.mk (bstep (show Below v2.heap.size v2 _ from (by first | exact HY1.out | exact bstep HY1.out (hal _))) hb); have m0 := belowCell HY3.out j0; clear hb)))
        all_goals
          (go_wp2
           go_ret
           exact ⟨bstep HB.out HY3.out, rfl⟩)
    · have hq := HQP.out.2.1 (by first | rfl | trivial) hbn
      have HQ := Kept.mk hq
      have ehb : ((bl.length : Int) == (n : Int)) = false := by rw [beq_eq_false_iff_ne]; omega
      clear hq hbn
      have HSN := Kept.mk (fun W vb' (hf : FldB D W b) (h : Sls W am m) (hb : Sl .i64 W vb' bl) => show Calls Try.prog 39 #[.pointer (some ⟨b, 0, none⟩), .slice am n cm, vb'] W (fun e w' => W = w' ∧ e = .returned (.tuple #[.slice none 0 0, .int .i64 ((7 : Nat) : Int)])) from by
        have := fsolve_no m am cm vb' bl W hf h (by rw [HMN.out]; exact hcm) hmm hb 7 HQ.out (by omega)
        rw [HMN.out] at this
        exact this)
      have HDY := Kept.mk (fun W vb' (hf : FldB D W b) (h : Sls W am m) (hb : Sl .i64 W vb' bl) => show Calls Try.prog 40 #[.pointer (some ⟨b, 0, none⟩), .slice am n cm, vb'] W (fun e w' => W = w' ∧ e = .returned (.tuple #[.slice none 0 0, .bool false])) from by
        have := deny_no m am cm vb' bl W hf h (by rw [HMN.out]; exact hcm) hmm hb (by rw [HQ.out]; exact (by omega))
        rw [HMN.out] at this
        exact this)
      go_wp2_with fail
      refine (HSN.out _ _ HF.out HM.out HSB.out).mono ?_
      rintro e w6 ⟨rfl, rfl⟩
      go_wp2_with fail
      refine (raw_any _ bs 70 _ HS.out (by omega)).mono ?_
      rintro e w7 ⟨hb7, vr7, rfl, hmr7⟩
      rw [HBL.out] at hmr7
      have HSB := Kept.mk hmr7.sl
      obtain ⟨ar7, cr7, rfl, hcr7, hmx7⟩ := hmr7.sl.form
      replace HM := Kept.mk (HM.out.below hb7)
      replace HS := Kept.mk (HS.out.below hb7)
      replace HF := Kept.mk (HF.out.below hb7)
      replace HB := Kept.mk (bstep HB.out hb7)
      replace j0 := belowCell hb7 j0
      replace j1 := belowCell hb7 j1
      replace j2 := belowCell hb7 j2
      replace j3 := belowCell hb7 j3
      clear hb7
      clear hmr7
      go_wp2_with fail
      refine (HDY.out _ _ HF.out HM.out HSB.out).mono ?_
      rintro e w8 ⟨rfl, rfl⟩
      go_wp2_with fail
      refine (raw_any _ bs 70 _ HS.out (by omega)).mono ?_
      rintro e w9 ⟨hb9, vr9, rfl, hmr9⟩
      rw [HBL.out] at hmr9
      have HSB := Kept.mk hmr9.sl
      obtain ⟨ar9, cr9, rfl, hcr9, hmx9⟩ := hmr9.sl.form
      replace HM := Kept.mk (HM.out.below hb9)
      replace HS := Kept.mk (HS.out.below hb9)
      replace HF := Kept.mk (HF.out.below hb9)
      replace HB := Kept.mk (bstep HB.out hb9)
      replace j0 := belowCell hb9 j0
      replace j1 := belowCell hb9 j1
      replace j2 := belowCell hb9 j2
      replace j3 := belowCell hb9 j3
      clear hb9
      clear hmr9
      go_wp2
      have hmk := run_make_row' (P := Try.prog) 34 3 (.int .i64 0) 8 Try.underlying34 info_i64 rfl .i64 .i64 n (by omega) (by omega)
      have HDN := Kept.mk (fun W vb' ww wn wc (hf : FldB D W b) (h : Sls W am m) (hb : Sl .i64 W vb' bl) => show Calls Try.prog 48 #[.pointer (some ⟨b, 0, none⟩), .slice am n cm, vb', .slice ww wn wc] W (fun e w' => W = w' ∧ e = .returned (.bool false)) from by
        have := fdenies_bad m am cm vb' bl ww wn wc W hf h (by rw [HMN.out]; exact hcm) hmm hb (by rw [HQ.out]; exact (by omega))
        rw [HMN.out] at this
        exact this)
      go_region_held3 (fun w' => w'.cell? ⟨g8, 0, none⟩ = some (.int .i64 D.q))
        (first | exact j0 | exact m0 | exact k0 | exact l0 | go_keep)
        ((first
          | (go_at_call 62; (refine (raw_any _ bs 70 _ ?h1 (by omega)).mono ?_); (case h1 => first | exact HS.out | exact HS.out.below (Below.refl _ _).drew | exact HS.out.below ((Below.refl _ _).drew.alloc (Nat.le_refl _) _)); rintro e v1 ⟨hb, vr, rfl, hmr⟩; rw [HBL.out] at hmr; have HSR := Kept.mk hmr.sl; have HY1 := Kept.mk (bstep (show Below w9.heap.size w9 _ from (by first | exact Below.refl _ _ | exact (Below.refl _ _).drew | exact (Below.refl _ _).drew.alloc (Nat.le_refl _) _)) hb); have k0 := belowCell HY1.out j0; have hal : ∀ o : Obj, Below v1.heap.size v1 (v1.alloc o) := fun o => (Below.refl _ _).alloc (Nat.le_refl _) _; have l0 := fun o => belowCell (hal o) k0; clear hb hmr)
          | (go_at_call 48; (refine (HDN.out _ _ _ _ _ ?h1 ?h2 ?h3).mono ?_); (case h1 => first | exact HF.out.below HY1.out | exact HF.out.below (bstep HY1.out (hal _))); (case h2 => first | exact HM.out.below HY1.out | exact HM.out.below (bstep HY1.out (hal _))); (case h3 => first | exact HSR.out | exact HSR.out.below (hal _)); rintro e v2 ⟨rfl, rfl⟩)
          | (go_at_call 49; (refine (awake_any _).mono ?_); rintro e v3 ⟨hb, rfl⟩; have HY3 := Kept.mk (bstep (show Below w9.heap.size w9 _ from (by first | exact HY1.out | exact bstep HY1.out (hal _))) hb); have m0 := belowCell HY3.out j0; clear hb)))
      all_goals
        (go_wp2
         go_ret
         exact ⟨bstep HB.out HY3.out, rfl⟩)
  · have hq := hqp.1 hc0
    have HQ := Kept.mk hq
    have ec0 : ((c : Int) == 0) = false := by rw [beq_eq_false_iff_ne]; omega
    have ec00 : ((c : Int) != 0) = true := by rw [bne_iff_ne]; omega
    have HC0 := Kept.mk hc0
    clear hqp hq hc0
    have HEN := Kept.mk (fun W (hf : FldB D W b) (h : Sls W am m) => show Calls Try.prog 38 #[.pointer (some ⟨b, 0, none⟩), .slice am n cm] W (fun e w' => W = w' ∧ e = .returned (.tuple #[.slice none 0 0, .int .i64 (c : Nat)])) from by
      have := echelon_no m am cm W hf h (by rw [HMN.out]; exact hcm) hmm c HC.out HC0.out
      rw [HMN.out] at this
      exact this)
    go_wp2_with fail
    refine (HEN.out _ HF.out HM.out).mono ?_
    rintro e w4 ⟨rfl, rfl⟩
    go_wp2_with fail
    refine (raw_any _ bs 70 _ HS.out (by omega)).mono ?_
    rintro e w5 ⟨hb5, vr5, rfl, hmr5⟩
    rw [HBL.out] at hmr5
    have HSB := Kept.mk hmr5.sl
    obtain ⟨ar5, cr5, rfl, hcr5, hmx5⟩ := hmr5.sl.form
    replace HM := Kept.mk (HM.out.below hb5)
    replace HS := Kept.mk (HS.out.below hb5)
    replace HF := Kept.mk (HF.out.below hb5)
    replace HB := Kept.mk (bstep HB.out hb5)
    replace j0 := belowCell hb5 j0
    replace j1 := belowCell hb5 j1
    replace j2 := belowCell hb5 j2
    replace j3 := belowCell hb5 j3
    clear hb5
    clear hmr5
    have HSN := Kept.mk (fun W vb' (hf : FldB D W b) (h : Sls W am m) (hb : Sl .i64 W vb' bl) => show Calls Try.prog 39 #[.pointer (some ⟨b, 0, none⟩), .slice am n cm, vb'] W (fun e w' => W = w' ∧ e = .returned (.tuple #[.slice none 0 0, .int .i64 ((c : Nat) : Int)])) from by
      have := fsolve_no m am cm vb' bl W hf h (by rw [HMN.out]; exact hcm) hmm hb c HQ.out HC0.out
      rw [HMN.out] at this
      exact this)
    have HDY := Kept.mk (fun W vb' (hf : FldB D W b) (h : Sls W am m) (hb : Sl .i64 W vb' bl) => show Calls Try.prog 40 #[.pointer (some ⟨b, 0, none⟩), .slice am n cm, vb'] W (fun e w' => W = w' ∧ e = .returned (.tuple #[.slice none 0 0, .bool false])) from by
      have := deny_no m am cm vb' bl W hf h (by rw [HMN.out]; exact hcm) hmm hb (by rw [HQ.out]; exact HC0.out)
      rw [HMN.out] at this
      exact this)
    go_wp2_with fail
    refine (HSN.out _ _ HF.out HM.out HSB.out).mono ?_
    rintro e w6 ⟨rfl, rfl⟩
    go_wp2_with fail
    refine (raw_any _ bs 70 _ HS.out (by omega)).mono ?_
    rintro e w7 ⟨hb7, vr7, rfl, hmr7⟩
    rw [HBL.out] at hmr7
    have HSB := Kept.mk hmr7.sl
    obtain ⟨ar7, cr7, rfl, hcr7, hmx7⟩ := hmr7.sl.form
    replace HM := Kept.mk (HM.out.below hb7)
    replace HS := Kept.mk (HS.out.below hb7)
    replace HF := Kept.mk (HF.out.below hb7)
    replace HB := Kept.mk (bstep HB.out hb7)
    replace j0 := belowCell hb7 j0
    replace j1 := belowCell hb7 j1
    replace j2 := belowCell hb7 j2
    replace j3 := belowCell hb7 j3
    clear hb7
    clear hmr7
    go_wp2_with fail
    refine (HDY.out _ _ HF.out HM.out HSB.out).mono ?_
    rintro e w8 ⟨rfl, rfl⟩
    go_wp2
    have hmk := run_make_row' (P := Try.prog) 34 3 (.int .i64 0) 8 Try.underlying34 info_i64 rfl .i64 .i64 n (by omega) (by omega)
    have HDN := Kept.mk (fun W vb' ww wn wc (hf : FldB D W b) (h : Sls W am m) (hb : Sl .i64 W vb' bl) => show Calls Try.prog 48 #[.pointer (some ⟨b, 0, none⟩), .slice am n cm, vb', .slice ww wn wc] W (fun e w' => W = w' ∧ e = .returned (.bool false)) from by
      have := fdenies_bad m am cm vb' bl ww wn wc W hf h (by rw [HMN.out]; exact hcm) hmm hb (by rw [HQ.out]; exact HC0.out)
      rw [HMN.out] at this
      exact this)
    go_region_held3 (fun w' => w'.cell? ⟨g8, 0, none⟩ = some (.int .i64 D.q))
      (first | exact j0 | exact m0 | exact k0 | exact l0 | go_keep)
      ((first
        | (go_at_call 62; (refine (raw_any _ bs 70 _ ?h1 (by omega)).mono ?_); (case h1 => first | exact HS.out | exact HS.out.below (Below.refl _ _).drew | exact HS.out.below ((Below.refl _ _).drew.alloc (Nat.le_refl _) _)); rintro e v1 ⟨hb, vr, rfl, hmr⟩; rw [HBL.out] at hmr; have HSR := Kept.mk hmr.sl; have HY1 := Kept.mk (bstep (show Below w7.heap.size w7 _ from (by first | exact Below.refl _ _ | exact (Below.refl _ _).drew | exact (Below.refl _ _).drew.alloc (Nat.le_refl _) _)) hb); have k0 := belowCell HY1.out j0; have hal : ∀ o : Obj, Below v1.heap.size v1 (v1.alloc o) := fun o => (Below.refl _ _).alloc (Nat.le_refl _) _; have l0 := fun o => belowCell (hal o) k0; clear hb hmr)
        | (go_at_call 48; (refine (HDN.out _ _ _ _ _ ?h1 ?h2 ?h3).mono ?_); (case h1 => first | exact HF.out.below HY1.out | exact HF.out.below (bstep HY1.out (hal _))); (case h2 => first | exact HM.out.below HY1.out | exact HM.out.below (bstep HY1.out (hal _))); (case h3 => first | exact HSR.out | exact HSR.out.below (hal _)); rintro e v2 ⟨rfl, rfl⟩)
        | (go_at_call 49; (refine (awake_any _).mono ?_); rintro e v3 ⟨hb, rfl⟩; have HY3 := Kept.mk (bstep (show Below w7.heap.size w7 _ from (by first | exact HY1.out | exact bstep HY1.out (hal _))) hb); have m0 := belowCell HY3.out j0; clear hb)))
    all_goals
      (go_wp2
       go_ret
       exact ⟨bstep HB.out HY3.out, rfl⟩)
end Go.Proofs.Ytfhhnfpapgfnmaa
