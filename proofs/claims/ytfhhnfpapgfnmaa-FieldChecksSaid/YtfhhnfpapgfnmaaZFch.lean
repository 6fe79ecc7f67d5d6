/-
  Texts of the proof, merged by program: Fch.
-/
import Derived.Test.YtfhhnfpapgfnmaaZChk
import Derived.Test.YtfhhnfpapgfnmaaZOpl
import Derived.Test.YtfhhnfpapgfnmaaZLca
set_option linter.unusedVariables false
set_option linter.unusedSimpArgs false
namespace Go.Proofs.Ytfhhnfpapgfnmaa
open Go Go.RowKit Go.Deep
open FFld (ints)
theorem one_sl (W : World) (x : Int) : Sl .i64 (W.alloc (.cells #[.int .i64 x] 3)) (.slice (some ⟨W.heap.size, 0, none⟩) 1 1) [x] := by
  refine ⟨_, 1, rfl, Nat.le_refl _, by unfold maxLen; omega, fun i hi => ⟨W.heap.size, 0, rfl, by simp, ?_⟩⟩
  obtain rfl : i = 0 := by simpa using hi
  exact (Row.new (E := 3) (K := .i64) W [x]).cell (i := 0) (by simp)
theorem cErr_one {D : FFld.FD} (hD : D.Ok) : cErr D [1] = 0 := by
  have h1 := hD.pre.pk.one_lt
  have hq : D.q = D.p ^ D.k := rfl
  have he : elsB D [1] = true := by unfold elsB; simp; omega
  have hz : zlast [1] = false := by simp [zlast]
  unfold cErr
  rw [if_neg (by simp), if_pos ⟨he, hz⟩]
theorem cErr_nil (D : FFld.FD) : cErr D [] = 0 := by
  unfold cErr
  rw [if_neg (by simp), if_pos ⟨rfl, rfl⟩]
set_option maxRecDepth 20000 in
set_option maxHeartbeats 2000000 in
theorem checkBoth_any {D : FFld.FD} {b : Nat} (v1 : Value) (xs1 : List Int) (v2 : Value) (xs2 : List Int) (w : World) (hf : FldB D w b) (h1 : Sl .i64 w v1 xs1) (h2 : Sl .i64 w v2 xs2) :
    Calls Try.prog 93 #[.pointer (some ⟨b, 0, none⟩), v1, v2] w (fun e w' => w = w' ∧ e = .returned (.int .i64 ((if cErr D xs1 = 0 then cErr D xs2 else cErr D xs1 : Nat) : Int))) := by
  have H1 := Kept.mk (fcheck_any v1 xs1 w hf h1)
  have H2 := Kept.mk (fcheck_any v2 xs2 w hf h2)
  obtain ⟨ao, cap, hv, hcap, hm⟩ := h1.form
  obtain ⟨ao2, cap2, hv2, hcap2, hm2⟩ := h2.form
  subst hv hv2
  obtain ⟨c, hc⟩ : ∃ c, cErr D xs1 = c := ⟨_, rfl⟩
  obtain ⟨d, hd⟩ : ∃ c, cErr D xs2 = c := ⟨_, rfl⟩
  rw [hc] at H1 ⊢
  rw [hd] at H2 ⊢
  clear hf h1 h2 hc hd
  by_cases h0 : c = 0
  · subst h0
    have e0 : (((0 : Nat) : Int) == 0) = true := rfl
    rw [if_pos rfl]
    go_enter Try.func93, Try.ntmps93
    go_wp2_with fail
    refine H1.out.mono ?_
    rintro e w2 ⟨rfl, rfl⟩
    go_wp2_with fail
    refine H2.out.mono ?_
    rintro e w2 ⟨rfl, rfl⟩
    go_wp2
    go_ret
    exact ⟨rfl, rfl⟩
  · rw [if_neg h0]
    have e0 : ((c : Int) == 0) = false := by rw [beq_eq_false_iff_ne]; omega
    clear h0
    go_enter Try.func93, Try.ntmps93
    go_wp2_with fail
    refine H1.out.mono ?_
    rintro e w2 ⟨rfl, rfl⟩
    go_wp2
    go_ret
    exact ⟨rfl, rfl⟩
set_option maxRecDepth 20000 in
set_option maxHeartbeats 2000000 in
theorem bad_Value {D : FFld.FD} {b : Nat} {c : Nat} (v : Value) (xs : List Int) (w : World) (hf : FldB D w b) (h : Sl .i64 w v xs) (hc : cErr D xs = c) (c0 : c ≠ 0) :
    Calls Try.prog 31 #[.pointer (some ⟨b, 0, none⟩), v, .int .i64 1] w (fun e w' => w = w' ∧ e = .returned (.tuple #[.int .i64 0, .int .i64 (c : Nat)])) := by
  have HC := Kept.mk (fcheck_any v xs w hf h)
  rw [hc] at HC
  have e0 : ((c : Int) == 0) = false := by rw [beq_eq_false_iff_ne]; omega
  obtain ⟨ao, cap, hv, hcap, hm⟩ := h.form
  subst hv
  clear hf h hc
  go_enter Try.func31, Try.ntmps31
  go_wp2_with fail
  refine HC.out.mono ?_
  rintro e w2 ⟨rfl, rfl⟩
  go_wp2
  go_ret2
  exact ⟨rfl, rfl⟩
set_option maxRecDepth 20000 in
set_option maxHeartbeats 2000000 in
theorem bad_Roots {D : FFld.FD} {b : Nat} {c : Nat} (v : Value) (xs : List Int) (w : World) (hf : FldB D w b) (h : Sl .i64 w v xs) (hc : cErr D xs = c) (c0 : c ≠ 0) :
    Calls Try.prog 36 #[.pointer (some ⟨b, 0, none⟩), v] w (fun e w' => w = w' ∧ e = .returned (.tuple #[.slice none 0 0, .int .i64 (c : Nat)])) := by
  have HC := Kept.mk (fcheck_any v xs w hf h)
  rw [hc] at HC
  have e0 : ((c : Int) == 0) = false := by rw [beq_eq_false_iff_ne]; omega
  obtain ⟨ao, cap, hv, hcap, hm⟩ := h.form
  subst hv
  clear hf h hc
  go_enter Try.func36, Try.ntmps36
  go_wp2_with fail
  refine HC.out.mono ?_
  rintro e w2 ⟨rfl, rfl⟩
  go_wp2
  go_ret2
  exact ⟨rfl, rfl⟩
set_option maxRecDepth 20000 in
set_option maxHeartbeats 2000000 in
theorem bad_Irreducible {D : FFld.FD} {b : Nat} {c : Nat} (v : Value) (xs : List Int) (w : World) (hf : FldB D w b) (h : Sl .i64 w v xs) (hc : cErr D xs = c) (c0 : c ≠ 0) :
    Calls Try.prog 37 #[.pointer (some ⟨b, 0, none⟩), v] w (fun e w' => w = w' ∧ e = .returned (.tuple #[.bool false, .int .i64 (c : Nat)])) := by
  have HC := Kept.mk (fcheck_any v xs w hf h)
  rw [hc] at HC
  have e0 : ((c : Int) == 0) = false := by rw [beq_eq_false_iff_ne]; omega
  obtain ⟨ao, cap, hv, hcap, hm⟩ := h.form
  subst hv
  clear hf h hc
  go_enter Try.func37, Try.ntmps37
  go_wp2_with fail
  refine HC.out.mono ?_
  rintro e w2 ⟨rfl, rfl⟩
  go_wp2
  go_ret2
  exact ⟨rfl, rfl⟩
set_option maxRecDepth 20000 in
set_option maxHeartbeats 2000000 in
theorem bad_Divide {D : FFld.FD} {b : Nat} {c : Nat} (v : Value) (xs : List Int) (w : World) (hf : FldB D w b) (h : Sl .i64 w v xs) (hc : cErr D xs = c) (c0 : c ≠ 0) :
    Calls Try.prog 33 #[.pointer (some ⟨b, 0, none⟩), v, .slice none 0 0] w (fun e w' => w = w' ∧ e = .returned (.tuple #[.slice none 0 0, .slice none 0 0, .int .i64 (c : Nat)])) := by
  have HC := Kept.mk (checkBoth_any v xs (.slice none 0 0) [] w hf h (Sl.nil _ _))
  rw [hc, if_neg c0] at HC
  have e0 : ((c : Int) == 0) = false := by rw [beq_eq_false_iff_ne]; omega
  obtain ⟨ao, cap, hv, hcap, hm⟩ := h.form
  subst hv
  clear hf h hc
  go_enter Try.func33, Try.ntmps33
  go_wp2_with fail
  refine HC.out.mono ?_
  rintro e w2 ⟨rfl, rfl⟩
  go_wp2
  exact bodyPost_ret (v := .tuple #[.slice none 0 0, .slice none 0 0, .int .i64 (c : Nat)]) (by simp [results, Try.results33, go_sem]) rfl ⟨rfl, rfl⟩
set_option maxRecDepth 20000 in
set_option maxHeartbeats 2000000 in
theorem bad_Common {D : FFld.FD} {b : Nat} {c : Nat} (v : Value) (xs : List Int) (w : World) (hf : FldB D w b) (h : Sl .i64 w v xs) (hc : cErr D xs = c) (c0 : c ≠ 0) :
    Calls Try.prog 34 #[.pointer (some ⟨b, 0, none⟩), .slice none 0 0, v] w (fun e w' => w = w' ∧ e = .returned (.tuple #[.slice none 0 0, .int .i64 (c : Nat)])) := by
  have HC := Kept.mk (checkBoth_any (.slice none 0 0) [] v xs w hf (Sl.nil _ _) h)
  rw [cErr_nil, if_pos rfl, hc] at HC
  have e0 : ((c : Int) == 0) = false := by rw [beq_eq_false_iff_ne]; omega
  obtain ⟨ao, cap, hv, hcap, hm⟩ := h.form
  subst hv
  clear hf h hc
  go_enter Try.func34, Try.ntmps34
  go_wp2_with fail
  refine HC.out.mono ?_
  rintro e w2 ⟨rfl, rfl⟩
  go_wp2
  go_ret2
  exact ⟨rfl, rfl⟩
set_option maxRecDepth 20000 in
set_option maxHeartbeats 2000000 in
theorem bad_Product {D : FFld.FD} {b : Nat} {c : Nat} (v1 : Value) (v : Value) (xs : List Int) (w : World) (hf : FldB D w b) (h1 : Sl .i64 w v1 [1]) (h : Sl .i64 w v xs) (hc : cErr D xs = c) (c0 : c ≠ 0) :
    Calls Try.prog 32 #[.pointer (some ⟨b, 0, none⟩), v1, v] w (fun e w' => w = w' ∧ e = .returned (.tuple #[.slice none 0 0, .int .i64 (c : Nat)])) := by
  have HC := Kept.mk (checkBoth_any v1 [1] v xs w hf h1 h)
  rw [cErr_one hf.ok, if_pos rfl, hc] at HC
  obtain ⟨ao1, cap1, hv1, hcap1, hm1⟩ := h1.form
  subst hv1
  clear h1
  have e0 : ((c : Int) == 0) = false := by rw [beq_eq_false_iff_ne]; omega
  obtain ⟨ao, cap, hv, hcap, hm⟩ := h.form
  subst hv
  clear hf h hc
  go_enter Try.func32, Try.ntmps32
  go_wp2_with fail
  refine HC.out.mono ?_
  rintro e w2 ⟨rfl, rfl⟩
  go_wp2
  go_ret2
  exact ⟨rfl, rfl⟩
set_option maxRecDepth 20000 in
set_option maxHeartbeats 8000000 in
theorem fieldChecks_any (order : Int) (v : Value) (xs : List Int) (w : World) (o0 : -9223372036854775808 ≤ order) (o1 : order ≤ 9223372036854775807) (hs : Sl .i64 w v xs) (hbd : I64s xs) :
    Calls Try.prog 7 #[.int .i64 order, v] w (RB w (.bool true)) := by
  obtain ⟨ao0, cap0, hv0, hcap0, hm0⟩ := hs.form
  subst hv0
  go_enter Try.func7, Try.ntmps7
  go_wp2_with fail
  refine (some_any order 300 w o0 o1 (by omega) (by omega)).mono ?_
  rintro e w1 ⟨hb1, D, b, hD, hle, hbl, hf, rfl⟩
  have HB1 := Kept.mk hb1
  have HF1 := Kept.mk hf
  have HD := Kept.mk hD
  have hq0 : D.q = D.p ^ D.k := rfl
  have hq6 := hD.pre.small
  have hq1 := hD.pre.pk.one_lt
  rw [← hq0] at hq1
  have hbx : Below w1.heap.size w1 (w1.alloc (rbox D.q D.p D.k D.m)) := (Below.refl _ _).alloc (Nat.le_refl _) _
  obtain ⟨i0, i1, i2, i3⟩ := four_cells (heap_alloc_new w1 (rbox D.q D.p D.k D.m))
  have HX := Kept.mk hbx
  have hns : w1.heap.size < (w1.alloc (rbox D.q D.p D.k D.m)).heap.size := by simp
  have HS := Kept.mk ((hs.below hb1).below hbx)
  clear hb1 hf hD hbx hq0 hs hbd
  have HF := Kept.mk (HF1.out.below HX.out)
  have HB := Kept.mk (bstep HB1.out HX.out)
  clear HF1 HB1
  go_wp2_with fail
  refine (raw_any _ xs 202 _ HS.out (by omega)).mono ?_
  rintro e w2 ⟨hb2, vp, rfl, hmp⟩
  obtain ⟨ps, hps⟩ : ∃ ps, xs.take 202 = ps := ⟨_, rfl⟩
  rw [hps] at hmp
  have SP := Kept.mk hmp.sl
  obtain ⟨ap, cp, hvp, hcp, hmpp⟩ := hmp.sl.form
  subst hvp
  replace HF := Kept.mk (HF.out.below hb2)
  replace HB := Kept.mk (bstep HB.out hb2)
  have j0 := belowCell hb2 i0
  have j1 := belowCell hb2 i1
  have j2 := belowCell hb2 i2
  have j3 := belowCell hb2 i3
  obtain ⟨c, hc⟩ : ∃ c, cErr D ps = c := ⟨_, rfl⟩
  have hcl := cErr_le D ps
  rw [hc] at hcl
  have HC := Kept.mk hc
  clear hb2 hmp hps i0 i1 i2 i3 HS HX hc
  go_wp2_with fail
  refine (rcheck_any D _ ps _ SP.out).mono ?_
  rintro e w3 ⟨hb3, rfl⟩
  rw [HC.out]
  replace HF := Kept.mk (HF.out.below hb3)
  replace HB := Kept.mk (bstep HB.out hb3)
  replace SP := Kept.mk (SP.out.below hb3)
  clear hb3 j0 j1 j2 j3
  go_wp2_with fail
  refine (fcheck_any _ ps _ HF.out SP.out).mono ?_
  rintro e w4 ⟨rfl, rfl⟩
  rw [HC.out]
  have ecc : ((c : Int) == (c : Int)) = true := by simp
  by_cases hc0 : c = 0
  · have ec0 : ((c : Int) == 0) = true := by rw [hc0]; rfl
    clear hc0
    go_wp2_with fail
    refine (awake_any _).mono ?_
    rintro e w5 ⟨hb5, rfl⟩
    replace HB := Kept.mk (bstep HB.out hb5)
    clear hb5
    go_wp2
    go_ret
    exact ⟨HB.out, rfl⟩
  · have ec0 : ((c : Int) == 0) = false := by rw [beq_eq_false_iff_ne]; omega
    have HC0 := Kept.mk hc0
    clear hc0
    go_wp2_with fail
    refine (bad_Value _ ps _ HF.out SP.out HC.out HC0.out).mono ?_
    rintro e w5 ⟨rfl, rfl⟩
    have hal : Below w3.heap.size w3 (w3.alloc (.cells #[.int .i64 1] 3)) := (Below.refl _ _).alloc (Nat.le_refl _) _
    have HF5 := Kept.mk (HF.out.below hal)
    have HB5 := Kept.mk (bstep HB.out hal)
    have SP5 := Kept.mk (SP.out.below hal)
    have S15 := Kept.mk (one_sl w3 1)
    clear hal HF HB SP
    go_wp2_with fail
    refine (bad_Product _ _ ps _ HF5.out S15.out SP5.out HC.out HC0.out).mono ?_
    rintro e w5 ⟨rfl, rfl⟩
    go_wp2_with fail
    refine (bad_Divide _ ps _ HF5.out SP5.out HC.out HC0.out).mono ?_
    rintro e w5 ⟨rfl, rfl⟩
    go_wp2_with fail
    refine (bad_Common _ ps _ HF5.out SP5.out HC.out HC0.out).mono ?_
    rintro e w5 ⟨rfl, rfl⟩
    go_wp2_with fail
    refine (bad_Roots _ ps _ HF5.out SP5.out HC.out HC0.out).mono ?_
    rintro e w5 ⟨rfl, rfl⟩
    go_wp2_with fail
    refine (bad_Irreducible _ ps _ HF5.out SP5.out HC.out HC0.out).mono ?_
    rintro e w5 ⟨rfl, rfl⟩
    go_wp2_with fail
    refine (awake_any _).mono ?_
    rintro e w6 ⟨hb6, rfl⟩
    replace HB5 := Kept.mk (bstep HB5.out hb6)
    clear hb6
    go_wp2
    go_ret
    exact ⟨HB5.out, rfl⟩
end Go.Proofs.Ytfhhnfpapgfnmaa
