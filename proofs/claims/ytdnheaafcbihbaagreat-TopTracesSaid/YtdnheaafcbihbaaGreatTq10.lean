/-
  Texts of the proof, merged by program: TEst TEst2 TTak TTak2 TShr TShr2 TDiv TDivn TDivm.
-/
import Derived.Test.YtdnheaafcbihbaaGreatTq9
import Derived.Laws.CopyOwn
set_option linter.unusedSimpArgs false
set_option linter.unusedVariables false
set_option maxHeartbeats 16000000
namespace Go.Proofs.YtdnheaafcbihbaaGreat
open Go Go.RowKit
structure Big (D L P f s l2 l1 l0 : Int) : Prop where
 p : 0 < P
 f0 : 9223372036854775808 <= f
 f1 : f < 18446744073709551616
 s0 : 0 <= s
 s1 : s < 18446744073709551616
 l20 : 0 <= l2
 l10 : 0 <= l1
 l00 : 0 <= l0
 l11 : l1 < 18446744073709551616
 l01 : l0 < 18446744073709551616
 d0 : (f * 18446744073709551616 + s) * P <= D
 d1 : D < (f * 18446744073709551616 + s + 1) * P
 e0 : ((l2 * 18446744073709551616 + l1) * 18446744073709551616 + l0) * P <= L
 e1 : L < ((l2 * 18446744073709551616 + l1) * 18446744073709551616 + l0 + 1) * P
 lt : L < 18446744073709551616 * D
variable {D L P f s l2 l1 l0 : Int}
theorem Big.dlow (h : Big D L P f s l2 l1 l0) : 18446744073709551616 * P <= D := by
 have h1 : (18446744073709551616 : Int) * P <= (f * 18446744073709551616 + s) * P := Int.mul_le_mul_of_nonneg_right (by have := h.f0; have := h.s0; omega) (by have := h.p; omega)
 have := h.d0
 omega
theorem Big.low (h : Big D L P f s l2 l1 l0) {q r : Int} (q0 : 0 <= q) (q1 : q < 18446744073709551616) (he : l2 * 18446744073709551616 + l1 = q * f + r) (ht : q * s <= r * 18446744073709551616 + l0) : q * D <= L + D := by
 have hp := h.p
 have hl := h.dlow
 have h1 : q * D <= q * ((f * 18446744073709551616 + s) * P + P) := Int.mul_le_mul_of_nonneg_left (by have := h.d1; rw [Int.add_mul _ 1, Int.one_mul] at this; omega) q0
 have h2 : q * P <= 18446744073709551616 * P := Int.mul_le_mul_of_nonneg_right (by omega) (by omega)
 have h3 : q * (f * 18446744073709551616 + s) <= (l2 * 18446744073709551616 + l1) * 18446744073709551616 + l0 := by
  rw [he, Int.mul_add, Int.add_mul, <- Int.mul_assoc]
  omega
 have h4 : q * (f * 18446744073709551616 + s) * P <= ((l2 * 18446744073709551616 + l1) * 18446744073709551616 + l0) * P := Int.mul_le_mul_of_nonneg_right h3 (by omega)
 rw [Int.mul_add, <- Int.mul_assoc] at h1
 have := h.e0
 omega
theorem Big.high (h : Big D L P f s l2 l1 l0) {q r : Int} (q0 : 0 <= q) (he : l2 * 18446744073709551616 + l1 = q * f + r) (ht : r * 18446744073709551616 + l0 < q * s) : L < q * D := by
 have hp := h.p
 have h3 : (l2 * 18446744073709551616 + l1) * 18446744073709551616 + l0 + 1 <= q * (f * 18446744073709551616 + s) := by
  rw [he, Int.mul_add, Int.add_mul, <- Int.mul_assoc]
  omega
 have h4 : ((l2 * 18446744073709551616 + l1) * 18446744073709551616 + l0 + 1) * P <= q * (f * 18446744073709551616 + s) * P := Int.mul_le_mul_of_nonneg_right h3 (by omega)
 have h1 : q * ((f * 18446744073709551616 + s) * P) <= q * D := Int.mul_le_mul_of_nonneg_left h.d0 q0
 rw [<- Int.mul_assoc] at h1
 have := h.e1
 omega
theorem Big.first (h : Big D L P f s l2 l1 l0) {q r : Int} (q0 : 0 <= q) (he : l2 * 18446744073709551616 + l1 = q * f + r) (hr : r < f) : L < (q + 1) * D := by
 have hp := h.p
 have e1 : (q + 1) * f = q * f + f := by rw [Int.add_mul, Int.one_mul]
 refine h.high (q := q + 1) (r := r - f) (by omega) (by omega) ?_
 have h1 : 0 <= (q + 1) * s := Int.mul_nonneg (by omega) h.s0
 have := h.l01
 omega
theorem Big.full (h : Big D L P f s l2 l1 l0) (hf : f <= l2) : 18446744073709551615 * D <= L + D /\ L < (18446744073709551615 + 1) * D := by
 refine ⟨?_, by have := h.lt; omega⟩
 have hp := h.p
 have h1 : D < (f * 18446744073709551616 + 18446744073709551616) * P := by
  have h2 : (f * 18446744073709551616 + s + 1) * P <= (f * 18446744073709551616 + 18446744073709551616) * P := Int.mul_le_mul_of_nonneg_right (by have := h.s1; omega) (by omega)
  have := h.d1
  omega
 have h3 : (f * 18446744073709551616 * 18446744073709551616) * P <= L := by
  have h2 : (f * 18446744073709551616 * 18446744073709551616) * P <= ((l2 * 18446744073709551616 + l1) * 18446744073709551616 + l0) * P := Int.mul_le_mul_of_nonneg_right (by have := h.l10; have := h.l00; omega) (by omega)
  have := h.e0
  omega
 have h4 : 18446744073709551614 * ((f * 18446744073709551616 + 18446744073709551616) * P) <= (f * 18446744073709551616 * 18446744073709551616) * P := by
  rw [<- Int.mul_assoc]
  exact Int.mul_le_mul_of_nonneg_right (by have := h.f0; omega) (by omega)
 omega
end Go.Proofs.YtdnheaafcbihbaaGreat
namespace Go.Proofs.YtdnheaafcbihbaaGreat
open Go Go.RowKit
def EsRet (w : World) (D L : Int) (e : Ending) (w' : World) : Prop := ∃ q : Int, e = .returned (.int .u64 q) /\ Below w.heap.size w w' /\ 0 <= q /\ q < 18446744073709551616 /\ q * D <= L + D /\ L < (q + 1) * D
set_option maxRecDepth 20000 in
theorem estimate_any (gl ol cl gd od cd m : Nat) (w : World) {D L P f s l2 l1 l0 : Int} (hB : Big D L P f s l2 l1 l0) (hgl : gl < w.heap.size) (hgd : gd < w.heap.size) (hm : m <= 17000000000000)
 (hf : w.cell? ⟨gd, od + (m + 1), none⟩ = some (.int .u64 f)) (hs : w.cell? ⟨gd, od + m, none⟩ = some (.int .u64 s))
 (h2 : w.cell? ⟨gl, ol + (m + 2), none⟩ = some (.int .u64 l2)) (h1 : w.cell? ⟨gl, ol + (m + 1), none⟩ = some (.int .u64 l1)) (h0 : w.cell? ⟨gl, ol + m, none⟩ = some (.int .u64 l0)) :
 Calls Tryz.prog 258 #[.slice (some ⟨gl, ol, none⟩) (m + 3) cl, .slice (some ⟨gd, od, none⟩) (m + 2) cd] w (EsRet w D L) := by
 have f0 := hB.f0
 have f1 := hB.f1
 have s0 := hB.s0
 have s1 := hB.s1
 have l20 := hB.l20
 have l10 := hB.l10
 have l11 := hB.l11
 have l00 := hB.l00
 have l01 := hB.l01
 have HB := Lib.hid hB
 clear hB
 go_enter Tryz.func258, Tryz.ntmps258
 go_wp2
 go_quiet (fail)
 by_cases hlt : f <= l2
 ·go_wp2
  go_ret
  exact ⟨_, rfl, belowN _ _, by decide, by decide, HB.out.full hlt⟩
 ·obtain ⟨W, hWe⟩ : ∃ W, W = w.drewN nq := ⟨_, rfl⟩
  have hbW : Below w.heap.size w W := by rw [hWe]; exact belowN _ _
  have kc0 := (hbW.cell (p := ⟨gl, ol + (m + 2), none⟩) hgl).trans h2
  have kc1 := (hbW.cell (p := ⟨gl, ol + (m + 1), none⟩) hgl).trans h1
  have kc2 := (hbW.cell (p := ⟨gl, ol + m, none⟩) hgl).trans h0
  have hsW : w.heap.size <= W.heap.size := hbW.size
  rw [<- hWe]
  clear hWe h2 h1 h0 hf hs
  have i0 : (0 : Int) <= (m : Int) + 2 := by omega
  have i1 : (0 : Int) <= (m : Int) + 1 := by omega
  have i2 : (m : Int) + 2 < (m : Int) + 3 := by omega
  have i3 : (m : Int) + 1 < (m : Int) + 3 := by omega
  have i4 : IntKind.i64.wrap ((m : Int) + 2 - 1) = (m : Int) + 1 := by rw [IntKind.wrap_i64]; omega
  have i5 : ((m : Int) + 2).toNat = m + 2 := by omega
  have i6 : ((m : Int) + 1).toNat = m + 1 := by omega
  have i7 : IntKind.i64.wrap ((m : Int) + 1) = (m : Int) + 1 := by rw [IntKind.wrap_i64]; omega
  have i8 : (0 : Int) <= (m : Int) + 2 - 1 := by omega
  have i9 : (m : Int) + 2 - 1 < (m : Int) + 3 := by omega
  go_wp2_with fail
  go_region_held3 (fun w' => w'.cell? ⟨gl, ol + (m + 2), none⟩ = some (.int .u64 l2) /\ w'.cell? ⟨gl, ol + (m + 1), none⟩ = some (.int .u64 l1) /\ w'.cell? ⟨gl, ol + m, none⟩ = some (.int .u64 l0))
   (first | exact ⟨kd0, kd1, kd2⟩ | exact ⟨kc0, kc1, kc2⟩ | go_keep)
   ((go_at_call 254; refine (div64_any l2 l1 f _ (by omega) (by omega) (by omega) (by omega) (by omega)).mono ?_; rintro e w1 ⟨q, r, rfl, hb1, hqe, r0, r1, q0, q1⟩; have HQE := Lib.hid hqe; clear hqe; have kd0 := tbelowCell hb1 (v := .int .u64 l2) (b := gl) (o := ol + (m + 2)) (by simp [go_sem, kc0]); have kd1 := tbelowCell hb1 (v := .int .u64 l1) (b := gl) (o := ol + (m + 1)) (by simp [go_sem, kc1]); have kd2 := tbelowCell hb1 (v := .int .u64 l0) (b := gl) (o := ol + m) (by simp [go_sem, kc2])))
  have hb2 := hbW.drew.trans (hb1.mono (B' := w.heap.size) (by simpa using hsW))
  have HF := Lib.hid (HB.out.first q0 HQE.out r1)
  have hsW1 := hb2.size
  clear hb1 kd0 kd1 kc0 kc1 kc2
  go_wp2
  go_loopw [8, 9] (fun qv rv wr => ∃ q r : Int, qv = .int .u64 q /\ rv = .int .u64 r /\ 0 <= q /\ q < 18446744073709551616 /\ 0 <= r /\ r < 18446744073709551616 /\ Hid (l2 * 18446744073709551616 + l1 = q * f + r) /\ Hid (L < (q + 1) * D) /\ Below w.heap.size w wr /\ Below w1.heap.size w1 wr) (fun qv _ _ => (intOf qv).toNat)
  case atStart => exact ⟨q, r, rfl, rfl, q0, q1, r0, by omega, HQE, HF, hb2, Below.refl _ _⟩
  case round =>
   clear q0 q1 r0 r1 HQE HF
   obtain ⟨q, r, rfl, rfl, q0, q1, r0, r1, HE, HF, hbl, hbl1⟩ := hrel
   have hcl := tbelowCell hbl1 kd2
   go_wp2_with fail
   refine (mul64 q s _ q0 q1 s0 s1).mono ?_
   rintro e w' ⟨h, l, rfl, rfl, h0, h1, lo0, lo1, hv⟩
   have HV := Lib.hid hv
   clear hv
   have i10 : IntKind.i64.wrap ((m : Int) + 2 - 2) = (m : Int) := by rw [IntKind.wrap_i64]; omega
   by_cases ht : h < r \/ (h = r /\ l <= l0)
   ·have HL := Lib.hid (HB.out.low q0 q1 HE.out (by have := HV.out; omega))
    have HFIN : Hid (EsRet w D L (.returned (.int .u64 q)) wr) := ⟨q, rfl, hbl, q0, q1, HL.out, HF.out⟩
    rcases ht with ht | ⟨rfl, ht⟩
    ·go_wp2
     go_ret
     exact HFIN.out
    ·have ht2 : ¬ h < h := by omega
     go_wp2
     go_ret
     exact HFIN.out
   ·have ht1 : ¬ h < r := by omega
    have HL := Lib.hid (HB.out.high q0 HE.out (by have := HV.out; omega))
    have hq1 : 1 <= q := by
     by_cases hq : q = 0
     ·subst hq; have := HV.out; omega
     ·omega
    obtain ⟨t, d, hadd, t0, t1, d0, d1, hsum⟩ := add64 r f 0 r0 r1 (by omega) f1 (by omega) (by omega)
    have HS := Lib.hid hsum
    have HE2 : Hid (l2 * 18446744073709551616 + l1 = (q - 1) * f + (r + f)) := by show _ = _; have := HE.out; rw [Int.sub_mul, Int.one_mul]; omega
    have HL2 : Hid (L < (q - 1 + 1) * D) := by show _ < _; rw [show q - 1 + 1 = q by omega]; exact HL.out
    clear hsum
    by_cases hd : d = 0
    ·subst hd
     have hrel2 : Hid (l2 * 18446744073709551616 + l1 = (q - 1) * f + t) := by show _ = _; have := HE2.out; have := HS.out; omega
     by_cases heq : h = r
     ·have hl : ¬ l <= l0 := by omega
      subst heq
      go_wp2
      go_roundw
      case rel => exact ⟨q - 1, t, by go_num, rfl, by omega, by omega, t0, t1, hrel2, HL2, hbl, hbl1⟩
      case measure => simp [intOf] <;> omega
     ·go_wp2
      go_roundw
      case rel => exact ⟨q - 1, t, by go_num, rfl, by omega, by omega, t0, t1, hrel2, HL2, hbl, hbl1⟩
      case measure => simp [intOf] <;> omega
    ·obtain rfl : d = 1 := by omega
     have HD := Lib.hid (HB.out.low (q := q - 1) (r := r + f) (by omega) (by omega) HE2.out (by
      have h1 := Dg.mul_bound (B := 18446744073709551616) (x := q - 1) (y := s) (by omega) (by omega) s0 s1
      have := HS.out
      omega))
     have HFIN : Hid (EsRet w D L (.returned (.int .u64 (q - 1))) wr) := ⟨q - 1, rfl, hbl, by omega, by omega, HD.out, HL2.out⟩
     by_cases heq : h = r
     ·have hl : ¬ l <= l0 := by omega
      subst heq
      go_wp2
      go_ret
      exact HFIN.out
     ·go_wp2
      go_ret
      exact HFIN.out
theorem Big.of {us M : List Int} {m : Nat} (hu : us.length = m + 2) (hM : M.length = m + 3) (hwu : Dg.Wf BW us) (hwM : Dg.Wf BW M) (hf : 9223372036854775808 <= us[m + 1]?.getD 0)
 (hlt : Dg.val BW M < 18446744073709551616 * Dg.val BW us) :
 Big (Dg.val BW us) (Dg.val BW M) (BW ^ m) (us[m + 1]?.getD 0) (us[m]?.getD 0) (M[m + 2]?.getD 0) (M[m + 1]?.getD 0) (M[m]?.getD 0) := by
 have hp : 0 < BW ^ m := Dg.pow_pos (by decide) m
 have a1 : Dg.val BW us = Dg.val BW (us.take m) + BW ^ m * us[m]?.getD 0 + BW ^ (m + 1) * us[m + 1]?.getD 0 := by
  rw [<- Dg.val_take_succD, <- Dg.val_take_succD, List.take_of_length_le (by omega)]
 have a2 : Dg.val BW M = Dg.val BW (M.take m) + BW ^ m * M[m]?.getD 0 + BW ^ (m + 1) * M[m + 1]?.getD 0 + BW ^ (m + 2) * M[m + 2]?.getD 0 := by
  rw [<- Dg.val_take_succD, <- Dg.val_take_succD, <- Dg.val_take_succD, List.take_of_length_le (by omega)]
 have b1 := Dg.val_nonneg (B := BW) (by decide) (hwu.take m)
 have b2 := Dg.val_nonneg (B := BW) (by decide) (hwM.take m)
 have c1 := Dg.val_lt (B := BW) (by decide) (hwu.take m)
 have c2 := Dg.val_lt (B := BW) (by decide) (hwM.take m)
 rw [List.length_take, Nat.min_eq_left (by omega)] at c1 c2
 have u1 := wfD hwu (m + 1)
 have u0 := wfD hwu m
 have m2 := wfD hwM (m + 2)
 have m1 := wfD hwM (m + 1)
 have m0 := wfD hwM m
 rw [Int.pow_succ] at a1
 rw [show BW ^ (m + 2) = BW ^ m * BW * BW by rw [Int.pow_succ, Int.pow_succ], Int.pow_succ] at a2
 generalize us[m + 1]?.getD 0 = f at *
 generalize us[m]?.getD 0 = s at *
 generalize M[m + 2]?.getD 0 = l2 at *
 generalize M[m + 1]?.getD 0 = l1 at *
 generalize M[m]?.getD 0 = l0 at *
 generalize Dg.val BW (us.take m) = x at *
 generalize Dg.val BW (M.take m) = y at *
 generalize BW ^ m = p at *
 have e1 : (f * 18446744073709551616 + s) * p = p * s + p * BW * f := by unfold BW; simp only [Int.add_mul, Int.mul_add, Int.mul_comm, Int.mul_left_comm, Int.mul_assoc]; omega
 have e2 : ((l2 * 18446744073709551616 + l1) * 18446744073709551616 + l0) * p = p * l0 + p * BW * l1 + p * BW * BW * l2 := by
  unfold BW; simp only [Int.add_mul, Int.mul_add, Int.mul_comm, Int.mul_left_comm, Int.mul_assoc]; omega
 refine ⟨hp, hf, u1.2, u0.1, u0.2, m2.1, m1.1, m0.1, m1.2, m0.2, ?_, ?_, ?_, ?_, hlt⟩
 ·omega
 ·rw [Int.add_mul _ 1, Int.one_mul]; omega
 ·omega
 ·rw [Int.add_mul _ 1, Int.one_mul]; omega
def TmAt (M us M' : List Int) (f : Int) (k : Nat) (c : Int) : Prop := M'.length = M.length /\ Dg.Wf BW M' /\ 0 <= c /\ c < 18446744073709551616 /\
 Dg.val BW (M'.take k) + f * Dg.val BW (us.take k) = Dg.val BW (M.take k) + c * BW ^ k /\ ∀ i, k <= i -> M'[i]?.getD 0 = M[i]?.getD 0
theorem TmAt.start {M : List Int} (hM : Dg.Wf BW M) (us : List Int) (f : Int) : TmAt M us M f 0 0 := ⟨rfl, hM, by decide, by decide, by simp [Dg.val], fun _ _ => rfl⟩
theorem TmAt.next {M us M' : List Int} {f : Int} {k : Nat} {c x m h l s d : Int} (H : TmAt M us M' f k c) (hk : k < M.length) (hx : x = us[k]?.getD 0) (hm : m = M'[k]?.getD 0)
 (he : x * f + c = h * 18446744073709551616 + l) (hs : m - l - 0 = s - 18446744073709551616 * d) (s0 : 0 <= s) (s1 : s < 18446744073709551616) (d0 : 0 <= h + d) (d1 : h + d < 18446744073709551616) :
 TmAt M us (M'.set k s) f (k + 1) (h + d) := by
 obtain ⟨hl, hw, c0, c1, hv, hz⟩ := H
 refine ⟨by simpa using hl, hw.set k s0 s1, d0, d1, ?_, fun i hi => by rw [List.getElem?_set_ne (by omega)]; exact hz i (by omega)⟩
 rw [Dg.take_set_succ M' k s (by omega), Dg.val_append, Dg.val_one, Dg.val_take_succD, Dg.val_take_succD, <- hx, <- hz k (Nat.le_refl _), <- hm, Int.pow_succ]
 have : (M'.take k).length = k := by simp; omega
 rw [this]
 have e1 : BW ^ k * (x * f + c) = BW ^ k * (h * 18446744073709551616 + l) := by rw [he]
 have e2 : BW ^ k * m = BW ^ k * (l + s - 18446744073709551616 * d) := by congr 1; omega
 generalize BW ^ k = p at *
 generalize Dg.val BW (M'.take k) = a1 at *
 generalize Dg.val BW (us.take k) = a2 at *
 generalize Dg.val BW (M.take k) = a3 at *
 unfold BW
 simp only [Int.mul_add, Int.add_mul, Int.mul_sub, Int.mul_comm, Int.mul_left_comm, Int.mul_assoc] at *
 omega
theorem TmAt.last {M us M' : List Int} {f c t s b : Int} (H : TmAt M us M' f us.length c) (hl : M.length = us.length + 1) (ht : t = M'[us.length]?.getD 0) (hs : t - c - 0 = s - 18446744073709551616 * b)
 (s0 : 0 <= s) (s1 : s < 18446744073709551616) :
 (M'.set us.length s).length = M.length /\ Dg.Wf BW (M'.set us.length s) /\ Dg.val BW (M'.set us.length s) + f * Dg.val BW us = Dg.val BW M + b * BW ^ (us.length + 1) := by
 obtain ⟨hl', hw, c0, c1, hv, hz⟩ := H
 refine ⟨by simpa using hl', hw.set _ s0 s1, ?_⟩
 rw [Dg.val_set BW _ _ _ (by omega), <- ht]
 have e1 : Dg.val BW M' = Dg.val BW (M'.take us.length) + BW ^ us.length * t := by
  rw [ht, <- Dg.val_take_succD, List.take_of_length_le (by omega)]
 have e2 : Dg.val BW M = Dg.val BW (M.take us.length) + BW ^ us.length * t := by
  rw [ht, hz _ (Nat.le_refl _), <- Dg.val_take_succD, List.take_of_length_le (by omega)]
 rw [e1, e2, Int.pow_succ]
 rw [List.take_of_length_le (Nat.le_refl us.length)] at hv
 have e3 : BW ^ us.length * (s - 18446744073709551616 * b) = BW ^ us.length * (t - c) := by congr 1; omega
 generalize BW ^ us.length = p at *
 unfold BW at *
 simp only [Int.mul_add, Int.mul_sub, Int.mul_comm, Int.mul_left_comm, Int.mul_assoc] at *
 omega
theorem carry_fits {x f c h l m s d : Int} (x0 : 0 <= x) (x1 : x < 18446744073709551616) (f0 : 0 <= f) (f1 : f < 18446744073709551616) (c1 : c < 18446744073709551616) (l0 : 0 <= l)
 (he : x * f + c = h * 18446744073709551616 + l) (m0 : 0 <= m) (hs : m - l - 0 = s - 18446744073709551616 * d) (s1 : s < 18446744073709551616) (d1 : d <= 1) : h + d < 18446744073709551616 := by
 have := Dg.mul_bound (B := 18446744073709551616) x0 x1 f0 f1
 omega
def TmRet (w : World) (g : Nat) (P M S us : List Int) (e : Ending) (w' : World) : Prop :=
 ∃ (q : Int) (M' : List Int), e = .returned (.int .u64 q) /\ Row 165 .u64 w' g (P ++ M' ++ S) /\ w.grownBy w' (some g) /\ M'.length = M.length /\ Dg.Wf BW M' /\ 0 <= q /\ q < 18446744073709551616 /\
   Dg.val BW M = q * Dg.val BW us + Dg.val BW M' /\ Dg.val BW M' < Dg.val BW us
theorem tm_yes {M M' us : List Int} {q : Int} (hw : Dg.Wf BW M') (h : Dg.val BW M' + q * Dg.val BW us = Dg.val BW M + 0 * BW ^ (us.length + 1)) (hlt : Dg.val BW M < (q + 1) * Dg.val BW us) :
 Dg.val BW M = q * Dg.val BW us + Dg.val BW M' /\ Dg.val BW M' < Dg.val BW us := by
 rw [Int.add_mul, Int.one_mul] at hlt
 omega
theorem tm_no {M M' M3 us : List Int} {q d : Int} (hl : M'.length = us.length + 1) (hl3 : M3.length = us.length + 1) (hw : Dg.Wf BW M') (hw3 : Dg.Wf BW M3) (hwu : Dg.Wf BW us)
 (h : Dg.val BW M' + q * Dg.val BW us = Dg.val BW M + 1 * BW ^ (us.length + 1))
 (h3 : Dg.val BW M3 + d * BW ^ (us.length + 1) = Dg.val BW M' + Dg.val BW us) (d0 : 0 <= d) (d1 : d <= 1) (hge : q * Dg.val BW us <= Dg.val BW M + Dg.val BW us) :
 Dg.val BW M = (q - 1) * Dg.val BW us + Dg.val BW M3 /\ Dg.val BW M3 < Dg.val BW us := by
 have a1 := Dg.val_lt (B := BW) (by decide) hw
 have a3 := Dg.val_lt (B := BW) (by decide) hw3
 have a4 := Dg.val_nonneg (B := BW) (by decide) hw
 rw [hl] at a1
 rw [hl3] at a3
 rw [Int.sub_mul, Int.one_mul]
 have : d = 0 \/ d = 1 := by omega
 rcases this with rfl | rfl
 ·omega
 ·omega
set_option maxRecDepth 20000 in
theorem takeMultiple_any (g cap m : Nat) (P M S us : List Int) (va : Value) (w0 w : World) (ha : Sl .u64 w0 va us) (hb0 : Below w0.heap.size w0 w) (hg : w0.heap.size <= g)
 (hr : Row 165 .u64 w g (P ++ M ++ S)) (hu : us.length = m + 2) (hM : M.length = m + 3) (hwM : Dg.Wf BW M) (hwa : Dg.Wf BW us)
 (hf : 9223372036854775808 <= us[m + 1]?.getD 0) (hlt : Dg.val BW M < 18446744073709551616 * Dg.val BW us) (hm : m <= 17000000000000) :
 Calls Tryz.prog 236 #[.slice (some ⟨g, P.length, none⟩) (m + 3) cap, va] w (TmRet w g P M S us) := by
 have ha' := ha
 obtain ⟨ao, acap, rfl, hcap, hmax, hc⟩ := ha
 unfold maxLen at hmax
 obtain ⟨b, o, rfl, hbs, hcs⟩ := hc m (by omega)
 obtain ⟨b2, o2, e2, hbs2, hcf⟩ := hc (m + 1) (by omega)
 simp only [Option.some.injEq, Addr.mk.injEq, true_and, and_true] at e2
 obtain ⟨rfl, rfl⟩ := e2
 have HBIG := Lib.hid (Big.of hu hM hwa hwM hf hlt)
 have HC := Lib.hid hc
 have hgw := hr.lt
 have k1 := (hb0.cell (p := ⟨b, o + m, none⟩) hbs).trans hcs
 have k2 := (hb0.cell (p := ⟨b, o + (m + 1), none⟩) hbs).trans hcf
 have q2 := hr.cell (i := P.length + (m + 2)) (by simp; omega)
 have q1 := hr.cell (i := P.length + (m + 1)) (by simp; omega)
 have q0 := hr.cell (i := P.length + m) (by simp; omega)
 rw [Dg.mid_get P M S _ (by omega)] at q2 q1 q0
 have hbw : b < w.heap.size := Nat.lt_of_lt_of_le hbs hb0.size
 have hEst : Hid (Calls Tryz.prog 258 #[.slice (some ⟨g, P.length, none⟩) (m + 3) cap, .slice (some ⟨b, o, none⟩) (m + 2) acap] w (EsRet w (Dg.val BW us) (Dg.val BW M))) :=
  estimate_any g P.length cap b o acap m w HBIG.out hgw hbw hm k2 k1 q2 q1 q0
 rw [hu] at hcap ⊢
 have HM := Lib.hid hM
 have HU := Lib.hid hu
 have HLT := Lib.hid hlt
 have HFF := Lib.hid hf
 clear hM hu hlt hf hc hcs hcf k1 k2 q2 q1 q0
 go_enter Tryz.func236, Tryz.ntmps236
 go_wp2_with fail
 refine hEst.out.mono ?_
 rintro e w1 ⟨q, rfl, hb1, hq0, hq1, hqa, hqb⟩
 have HQA := Lib.hid hqa
 have HQB := Lib.hid hqb
 have hr1 := hr.below hb1
 have hb01 := hb0.trans (hb1.mono hb0.size)
 have hg1 := tgrowBelow (r := some g) hb1
 clear hqa hqb hr hEst
 go_wp2
 go_loopw [6, 18] (fun c i wr => ∃ (k : Nat) (cv : Int) (M' : List Int), k <= m + 2 /\ i = .int .i64 k /\ c = .int .u64 cv /\ Hid (TmAt M us M' q k cv) /\ Row 165 .u64 wr g (P ++ M' ++ S) /\ w.grownBy wr (some g)) (fun _ i _ => m + 2 - (intOf i).toNat)
 case atStart => exact ⟨0, 0, M, Nat.zero_le _, rfl, rfl, TmAt.start hwM us q, hr1, hg1⟩
 case round =>
  obtain ⟨k, cv, M', hk, rfl, rfl, hat, hrr, hgr⟩ := hrel
  clear hr1 hg1
  have hz0 : 0 <= cv := hat.out.2.2.1
  have hz1 : cv < 18446744073709551616 := hat.out.2.2.2.1
  by_cases hlt : k < m + 2
  ·have hMl : k < M'.length := by have := hat.out.1; have := HM.out; omega
   obtain ⟨b2, o2, e2, _, hcell⟩ := HC.out k (by have := HU.out; omega)
   simp only [Option.some.injEq, Addr.mk.injEq, true_and, and_true] at e2
   obtain ⟨rfl, rfl⟩ := e2
   obtain ⟨x, hx⟩ : ∃ x, x = us[k]?.getD 0 := ⟨_, rfl⟩
   obtain ⟨y, hy⟩ : ∃ y, y = M'[k]?.getD 0 := ⟨_, rfl⟩
   have hxb := wfD hwa k
   have hyb := wfD hat.out.2.1 k
   have hcl := ((tbelowGrow hgr hb0 hg).cell (p := ⟨b, o + k, none⟩) hbs).trans hcell
   have hcz := hrr.cell (i := P.length + k) (by simp; omega)
   rw [Dg.mid_get P M' S k hMl, <- hy] at hcz
   have hfz := hrr.free (P.length + k)
   rw [<- hx] at hcl hxb
   rw [<- hy] at hyb
   have HX := Lib.hid hx
   have HY := Lib.hid hy
   clear hx hy hcell
   go_wp2_with fail
   refine (mulAdd x q cv _ hxb.1 hxb.2 hq0 hq1 hz0 hz1).mono ?_
   rintro e w' ⟨h, l, rfl, rfl, h0, h1, l0, l1, hv⟩
   obtain ⟨s, d, hsub, s0, s1, d0, d1, hs⟩ := sub64 y l 0 hyb.1 hyb.2 l0 l1 (by omega) (by omega)
   have hfit := carry_fits hxb.1 hxb.2 hq0 hq1 hz1 l0 hv hyb.1 hs s1 d1
   have HV := Lib.hid hv
   have HS := Lib.hid hs
   clear hv hs
   go_wp2
   have hrs := hrr.set (P.length + k) s
   rw [Dg.mid_set P M' S k s hMl] at hrs
   go_roundw
   case rel => exact ⟨k + 1, h + d, M'.set k s, by omega, by go_num, rfl, hat.out.next (by have := HM.out; omega) HX.out HY.out HV.out HS.out s0 s1 (by omega) (by omega), hrs, tgrowSet hgr _ _⟩
   case measure => simp [intOf] <;> omega
  ·obtain rfl : k = m + 2 := by omega
   have hat2 := hat
   rw [<- HU.out] at hat2
   have hMl : m + 2 < M'.length := by have := hat.out.1; have := HM.out; omega
   obtain ⟨t, ht⟩ : ∃ t, t = M'[m + 2]?.getD 0 := ⟨_, rfl⟩
   have htb := wfD hat.out.2.1 (m + 2)
   rw [<- ht] at htb
   have hcz := hrr.cell (i := P.length + (m + 2)) (by simp; omega)
   rw [Dg.mid_get P M' S _ hMl, <- ht] at hcz
   have hfz := hrr.free (P.length + (m + 2))
   obtain ⟨s, d, hsub, s0, s1, d0, d1, hs⟩ := sub64 t cv 0 htb.1 htb.2 hz0 hz1 (by omega) (by omega)
   have HD := Lib.hid (hat2.out.last (by have := HM.out; have := HU.out; omega) (by rw [HU.out]; exact ht) hs s0 s1)
   have hrs := hrr.set (P.length + (m + 2)) s
   rw [Dg.mid_set P M' S _ _ hMl] at hrs
   have HRS := Lib.hid hrs
   have HGS := Lib.hid (tgrowSet hgr (P.length + (m + 2)) (.int .u64 s))
   clear ht hrs hs
   by_cases hd : d = 0
   ·subst hd
    go_wp2
    go_ret
    have h1 := HD.out
    rw [HU.out] at h1
    have h2 := tm_yes (us := us) h1.2.1 (by rw [HU.out]; exact h1.2.2) HQB.out
    exact ⟨q, _, rfl, HRS.out, HGS.out, h1.1, h1.2.1, hq0, hq1, h2⟩
   ·obtain rfl : d = 1 := by omega
    have h1 := HD.out
    rw [HU.out] at h1
    have hAb := addBack_any g cap P (M'.set (m + 2) s) S us _ w0 _ ha' (tbelowGrow HGS.out hb0 hg) hg HRS.out (by rw [h1.1, HM.out, HU.out]) h1.2.1 hwa
    rw [HU.out] at hAb
    have HAB := Lib.hid hAb
    clear hAb h1
    go_wp2_with fail
    refine HAB.out.mono ?_
    rintro e w' ⟨M3, rfl, hr3, hg3, hl3, hw3, hv3⟩
    have HV3 := Lib.hid hv3
    have HL3 := Lib.hid hl3
    clear hv3 hl3
    obtain ⟨d, hd0, hd1, hv3⟩ := HV3.out
    have h1 := HD.out
    rw [HU.out] at h1
    have HN := Lib.hid (tm_no (us := us) (M := M) (q := q) (by rw [h1.1, HM.out, HU.out]) (by rw [HL3.out, h1.1, HM.out, HU.out]) h1.2.1 hw3 hwa (by rw [HU.out]; exact h1.2.2) hv3 hd0 hd1 HQA.out)
    have hqp : 1 <= q := by
     by_cases hq : q = 0
     ·subst hq
      have a1 := Dg.val_nonneg (B := BW) (by decide) hw3
      have a2 := Dg.val_nonneg (B := BW) (by decide) hwM
      have := HN.out
      omega
     ·omega
    have HLL := Lib.hid h1.1
    clear hv3 h1
    go_wp2
    go_ret
    exact ⟨q - 1, _, by go_num, hr3, tgrowTrans HGS.out hg3, HL3.out.trans HLL.out, hw3, by omega, by omega, HN.out⟩
theorem shr_one (x y : Int) (s : Nat) (hs : s <= 63) (x0 : 0 <= x) (x1 : x < 18446744073709551616) (y0 : 0 <= y) (y1 : y < 18446744073709551616) :
 ∃ r : Int, bits .or .u64 (x / 2 ^ s) (IntKind.u64.wrap (y * 2 ^ (64 - s))) = r /\ 0 <= r /\ r < 18446744073709551616 /\ r * 2 ^ s = x - x % 2 ^ s + 18446744073709551616 * (y % 2 ^ s) := by
 have hp : (0 : Int) < 2 ^ s := Dg.pow_pos (by omega) s
 have hq : (0 : Int) < 2 ^ (64 - s) := Dg.pow_pos (by omega) _
 have hpq : (2 : Int) ^ (64 - s) * 2 ^ s = 18446744073709551616 := by
  rw [<- Int.pow_add, show 64 - s + s = 64 by omega]; rfl
 have hx0 := Int.ediv_nonneg x0 (Int.le_of_lt hp)
 have hxm := Int.mul_ediv_add_emod x (2 ^ s)
 have hxm0 := Int.emod_nonneg x (Int.ne_of_gt hp)
 have hym := Int.mul_ediv_add_emod y (2 ^ s)
 have hym0 := Int.emod_nonneg y (Int.ne_of_gt hp)
 have hym1 := Int.emod_lt_of_pos y hp
 refine ⟨_, rfl, ?_⟩
 have hor := fun a b h1 h2 h3 h4 => or_add' a b (64 - s) h1 h2 h3 h4
 generalize x / 2 ^ s = d at *
 generalize y / 2 ^ s = e at *
 generalize x % 2 ^ s = xr at *
 generalize y % 2 ^ s = yr at *
 generalize (2 : Int) ^ s = p at *
 generalize (2 : Int) ^ (64 - s) = q at *
 have hd1 : d < q := by
  apply Int.lt_of_mul_lt_mul_left (a := p) ?_ (by omega)
  rw [Int.mul_comm p q]
  omega
 have e1 : y * q = e * 18446744073709551616 + yr * q := by rw [<- hym, Int.add_mul, Int.mul_comm p e, Int.mul_assoc, Int.mul_comm p q, hpq]
 have e2 : (yr + 1) * q <= p * q := Int.mul_le_mul_of_nonneg_right (by omega) (by omega)
 rw [Int.mul_comm p q, hpq, Int.add_mul] at e2
 have e3 : 0 <= yr * q := Int.mul_nonneg hym0 (by omega)
 have ew : IntKind.u64.wrap (y * q) = yr * q := by rw [IntKind.wrap_u64, e1]; omega
 rw [ew, hor yr d hym0 hx0 hd1 (by omega)]
 refine ⟨by omega, by omega, ?_⟩
 rw [Int.add_mul, Int.mul_assoc, hpq, Int.mul_comm d p, Int.mul_comm yr]
 omega
structure ShrAt (ys T : List Int) (s k : Nat) : Prop where
 len : T.length = ys.length
 wf : Dg.Wf BW T
 eq : Dg.val BW (T.take k) * 2 ^ s = Dg.val BW (ys.take k) - ys[0]?.getD 0 % 2 ^ s + BW ^ k * (ys[k]?.getD 0 % 2 ^ s)
 zero : ∀ i, k <= i -> T[i]?.getD 0 = 0
theorem ShrAt.start (ys : List Int) (s : Nat) : ShrAt ys (List.replicate ys.length 0) s 0 := by
 have hz : ∀ i : Nat, (List.replicate ys.length (0 : Int))[i]?.getD 0 = 0 := fun i => by simp [List.getElem?_replicate]; split <;> rfl
 exact ⟨by simp, Dg.Wf.zeros (by decide) _, by simp [Dg.val]; omega, fun i _ => hz i⟩
theorem ShrAt.next {ys T : List Int} {s k : Nat} {x y r : Int} (h : ShrAt ys T s k) (hk : k < ys.length) (hx : x = ys[k]?.getD 0) (hy : y = ys[k + 1]?.getD 0)
 (r0 : 0 <= r) (r1 : r < 18446744073709551616) (he : r * 2 ^ s = x - x % 2 ^ s + 18446744073709551616 * (y % 2 ^ s)) : ShrAt ys (T.set k r) s (k + 1) := by
 obtain ⟨hl, hw, hv, hz⟩ := h
 refine ⟨by simpa using hl, hw.set _ r0 r1, ?_, fun i hi => by rw [List.getElem?_set_ne (by omega)]; exact hz i (by omega)⟩
 rw [Dg.take_set_succ T k r (by omega), Dg.val_append, Dg.val_one, Dg.val_take_succD, <- hx, <- hy, Int.pow_succ]
 have : (T.take k).length = k := by simp; omega
 rw [this, Int.add_mul, hv, <- hx, Int.mul_assoc, he]
 unfold BW
 simp only [Int.mul_add, Int.mul_sub, Int.add_mul, Int.sub_mul, Int.mul_comm, Int.mul_left_comm, Int.mul_assoc]
 omega
theorem ShrAt.done {ys T : List Int} {s : Nat} (h : ShrAt ys T s ys.length) (hw : Dg.Wf BW ys) : Dg.val BW T = Dg.val BW ys / 2 ^ s := by
 have hp : (0 : Int) < 2 ^ s := Dg.pow_pos (by omega) s
 have hv := h.eq
 rw [List.take_of_length_le (by rw [h.len]; exact Nat.le_refl _), List.take_of_length_le (Nat.le_refl _)] at hv
 have hz : ys[ys.length]?.getD 0 = 0 := by simp
 rw [hz, Int.zero_emod, Int.mul_zero, Int.add_zero] at hv
 have m0 := Int.emod_nonneg (ys[0]?.getD 0) (Int.ne_of_gt hp)
 have m1 := Int.emod_lt_of_pos (ys[0]?.getD 0) hp
 rw [show Dg.val BW ys = ys[0]?.getD 0 % 2 ^ s + 2 ^ s * Dg.val BW T by rw [Int.mul_comm]; omega, Int.add_mul_ediv_left _ _ (Int.ne_of_gt hp), Int.ediv_eq_zero_of_lt m0 m1, Int.zero_add]
theorem shr_val {xs : List Int} (hw : Dg.Wf BW xs) (W s : Nat) (hW : W <= xs.length) : Dg.val BW (xs.drop W) / 2 ^ s = Dg.val BW xs / (BW ^ W * 2 ^ s) := by
 have h := Dg.val_split BW xs W hW
 have b0 := Dg.val_nonneg (B := BW) (by decide) (hw.take W)
 have b1 := Dg.val_lt (B := BW) (by decide) (hw.take W)
 rw [List.length_take, Nat.min_eq_left hW] at b1
 have hp : 0 < BW ^ W := Dg.pow_pos (by decide) W
 rw [<- Int.ediv_ediv_of_nonneg (Int.le_of_lt hp), h, Int.add_mul_ediv_left _ _ (Int.ne_of_gt hp), Int.ediv_eq_zero_of_lt b0 b1, Int.zero_add]
set_option maxRecDepth 20000 in
theorem shiftRight_at (v : Value) (xs : List Int) (c : Int) (W s : Nat) (w : World) (hv : Sl .u64 w v xs) (hw : Dg.Wf BW xs) (hc0 : 0 <= c) (hc1 : c <= 9223372036854775807)
 (hq : c.tdiv 64 = W) (hr : c.tmod 64 = s) (hs : s <= 63) (hmx : xs.length <= 17000000000000) :
 Calls Tryz.prog 237 #[v, .int .i64 c] w (RetNum xs.length w (Dg.val BW xs / (BW ^ W * 2 ^ s))) := by
 have hv' := hv
 obtain ⟨ao, cap, rfl, hcap, hmax, hc⟩ := hv
 unfold maxLen at hmax
 have hWb : (W : Int) <= 9223372036854775807 := by rw [<- hq, Int.tdiv_eq_ediv_of_nonneg hc0]; omega
 by_cases hge : xs.length <= W
 ·have hz : Dg.val BW xs / (BW ^ W * 2 ^ s) = 0 := by
   have b0 := Dg.val_nonneg (B := BW) (by decide) hw
   have b1 := Dg.val_lt (B := BW) (by decide) hw
   have h1 : BW ^ xs.length <= BW ^ W := Dg.pow_mono (by decide) hge
   have h2 : BW ^ W * 1 <= BW ^ W * 2 ^ s := Int.mul_le_mul_of_nonneg_left (Dg.pow_pos (by omega) s) (Int.le_of_lt (Dg.pow_pos (by decide) W))
   exact Int.ediv_eq_zero_of_lt b0 (by omega)
  rw [hz]
  clear hz
  go_enter Tryz.func237, Tryz.ntmps237
  go_wp2
  go_ret
  exact ⟨Below.refl _ _, _, rfl, ⟨[], Sl.nil _ _, Dg.Wf.nil _, Dg.Nz.nil, rfl, Nat.zero_le _⟩, Frm.nil _⟩
 ·obtain ⟨n, hn⟩ : ∃ n, xs.length = W + n := ⟨xs.length - W, by omega⟩
  rw [<- shr_val hw W s (by omega)]
  have hyl : Hid ((xs.drop W).length = n) := by show _ = _; simp; omega
  have hyw := hw.drop W
  obtain ⟨ys, hys⟩ : ∃ ys, ys = xs.drop W := ⟨_, rfl⟩
  have HYS := Lib.hid hys
  rw [<- hys] at hyl hyw ⊢
  clear hys
  have HN := Lib.hid hn
  go_enter Tryz.func237, Tryz.ntmps237
  go_wp2_with (at_make; refine wpList_make_zeros _ rfl _ _ 96 rfl 165 .u64 Tryz.underlying96 info_u64 _ _ n rfl rfl (by omega) (by omega) (by omega) ?_)
  intro w1 hrow hbel
  go_wp2
  go_loopw [24] (fun i wr => ∃ (k : Nat) (T : List Int), k <= n /\ i = .int .i64 k /\ Hid (ShrAt ys T s k) /\ Row 165 .u64 wr w.heap.size T /\ Below w.heap.size w wr) (fun i _ => n - (intOf i).toNat)
  case atStart => exact ⟨0, _, Nat.zero_le _, rfl, by have := ShrAt.start ys s; rw [hyl.out] at this; exact this, hrow, hbel⟩
  case round =>
   obtain ⟨k, T, hk, rfl, hat, hr2, hbl⟩ := hrel
   clear hrow hbel
   by_cases hlt : k < n
   ·obtain ⟨b, o, rfl, hbs, hcell⟩ := hc (k + W) (by omega)
    obtain ⟨x, hx⟩ : ∃ x, x = xs[k + W]?.getD 0 := ⟨_, rfl⟩
    obtain ⟨y, hy⟩ : ∃ y, y = xs[k + W + 1]?.getD 0 := ⟨_, rfl⟩
    have hxb := wfD hw (k + W)
    have hyb := wfD hw (k + W + 1)
    rw [<- hx] at hcell hxb
    rw [<- hy] at hyb
    have hcl := (hbl.cell (p := ⟨b, o + (k + W), none⟩) hbs).trans hcell
    have htl : T.length = n := by rw [hat.out.len]; exact hyl.out
    have hcz := hr2.cell (i := k) (by omega)
    rw [hat.out.zero k (Nat.le_refl _)] at hcz
    have hfz := hr2.free k
    have hsl : Hid (Sl .u64 wr (.slice (some ⟨b, o, none⟩) (W + n) cap) xs) := by show Sl _ _ _ _; rw [<- HN.out]; exact hv'.below hbl
    obtain ⟨r, er, r0, r1, he⟩ := shr_one x y s hs hxb.1 hxb.2 hyb.1 hyb.2
    have HX : Hid (x = ys[k]?.getD 0) := by show _ = _; rw [hx, HYS.out, List.getElem?_drop, Nat.add_comm]
    have HY : Hid (y = ys[k + 1]?.getD 0) := by show _ = _; rw [hy, HYS.out, List.getElem?_drop, show W + (k + 1) = k + W + 1 by omega]
    have HYY := Lib.hid hy
    have HE := Lib.hid he
    have HTL := Lib.hid htl
    clear hx hy he hcell htl
    have hWA : Hid (∀ w' : World, Sl .u64 w' (.slice (some ⟨b, o, none⟩) (W + n) cap) xs -> Calls Tryz.prog 239 #[.slice (some ⟨b, o, none⟩) (W + n) cap, .int .i64 ((k : Int) + W + 1)] w' fun e w'' => e = .returned (.int .u64 y) /\ w' = w'') := by
     intro w' hs'
     have := wordAt_any hs' (k + W + 1) y HYY
     simpa using this
    have j0 : (0 : Int) <= (k : Int) + W := by omega
    have j1 : (k : Int) + W < (W : Int) + n := by omega
    have j2 : IntKind.i64.wrap ((k : Int) + W) = (k : Int) + W := by rw [IntKind.wrap_i64]; omega
    have j3 : ((k : Int) + W).toNat = k + W := by omega
    have j4 : (0 : Int) <= (k : Int) := by omega
    have j5 : (k : Int) < (n : Int) := by omega
    have j6 : IntKind.i64.wrap ((k : Int) + W + 1) = (k : Int) + W + 1 := by rw [IntKind.wrap_i64]; omega
    have j7 : IntKind.i64.wrap (64 - (s : Int)) = 64 - (s : Int) := by rw [IntKind.wrap_i64]; omega
    have j8 : (0 : Int) <= 64 - (s : Int) := by omega
    have j9 : (64 - (s : Int)).toNat = 64 - s := by omega
    have hkeep : Hid (∀ v : Value, (wr.setCell ⟨w.heap.size, k, none⟩ v).drew.cell? ⟨b, o + (k + W), none⟩ = some (.int .u64 x)) := fun v => ((((Below.refl w.heap.size wr).setCell (p := ⟨w.heap.size, k, none⟩) (Nat.le_refl _) v).drew).cell (p := ⟨b, o + (k + W), none⟩) hbs).trans hcl
    have hcl0 := hcl
    have hcz0 := hcz
    have hfz0 := hfz
    go_wp2_with fail
    go_region_held3 (fun w' => w'.cell? ⟨b, o + (k + W), none⟩ = some (.int .u64 x)) (first | exact hcl0 | exact hkeep.out _ | go_keep)
     ((go_at_call 239; refine (hWA.out _ (by exact hsl.out)).mono ?_; rintro e w2 ⟨rfl, rfl⟩))
    go_wp2
    go_roundw
    case rel => exact ⟨k + 1, _, by omega, by go_num, hat.out.next (by rw [hyl.out]; exact hlt) HX.out HY.out r0 r1 HE.out, (hr2.drew).set _ r, hbl.drew.setCell (Nat.le_refl _) _⟩
    case measure => simp [intOf] <;> omega
   ·obtain rfl : k = n := by omega
    have hSl := hr2.slAll (n := k) (cap := k) (by rw [hat.out.len]; exact hyl.out.symm) (Nat.le_refl _) (by unfold maxLen; omega)
    have hdw := hat.out.wf
    have hd := hat.out
    rw [<- hyl.out] at hd
    have HV := Lib.hid (hd.done hyw)
    have HL : Hid (T.length = k) := hat.out.len.trans hyl.out
    clear hd hat
    go_wp2_with (go_at_call 196; refine (cut_num hSl hdw).mono ?_; rintro e w' ⟨v', rfl, rfl, hn', hob⟩; have HOB := Lib.hid hob; clear hob)
    go_ret
    rw [HV.out, HL.out] at hn'
    exact ⟨hbl, _, rfl, hn'.mono (by omega), (Frm.mk (Nat.le_refl _)).of HOB.out⟩
structure DvAt (V D : Int) (T Q : List Int) (k : Nat) : Prop where
 wt : Dg.Wf BW T
 wq : Dg.Wf BW Q
 eq : V = Dg.val BW T + D * (BW ^ k * Dg.val BW (Q.drop k))
 lt : Dg.val BW T < D * BW ^ k
theorem DvAt.window {V D : Int} {P M S Q : List Int} {k m : Nat} (h : DvAt V D (P ++ M ++ S) Q (k + 1)) (hP : P.length = k) (hM : M.length = m + 3) (hD : D <= BW ^ (m + 2)) (hw : Dg.Wf BW P) (hwM : Dg.Wf BW M) (hwS : Dg.Wf BW S) :
 Dg.val BW S = 0 /\ Dg.val BW (P ++ M ++ S) = Dg.val BW P + BW ^ k * Dg.val BW M /\ Dg.val BW M < 18446744073709551616 * D := by
 have hlt := h.lt
 have hp : 0 < BW ^ k := Dg.pow_pos (by decide) k
 have p0 := Dg.val_nonneg (B := BW) (by decide) hw
 have m0 := Dg.val_nonneg (B := BW) (by decide) hwM
 have s0 := Dg.val_nonneg (B := BW) (by decide) hwS
 rw [Dg.val_append, Dg.val_append, List.length_append, hP, hM] at hlt ⊢
 have hz : Dg.val BW S = 0 := by
  have h1 : D * BW ^ (k + 1) <= BW ^ (m + 2) * BW ^ (k + 1) := Int.mul_le_mul_of_nonneg_right hD (Int.le_of_lt (Dg.pow_pos (by decide) _))
  rw [<- Int.pow_add, show m + 2 + (k + 1) = k + (m + 3) by omega] at h1
  have h2 : 0 <= BW ^ k * Dg.val BW M := Int.mul_nonneg (Int.le_of_lt hp) m0
  have h3 : BW ^ (k + (m + 3)) * Dg.val BW S < BW ^ (k + (m + 3)) * 1 := by omega
  have := Int.lt_of_mul_lt_mul_left h3 (Int.le_of_lt (Dg.pow_pos (by decide) _))
  omega
 refine ⟨hz, by rw [hz, Int.mul_zero, Int.add_zero], ?_⟩
 rw [hz, Int.mul_zero, Int.add_zero, Int.pow_succ] at hlt
 apply Int.lt_of_mul_lt_mul_left (a := BW ^ k) ?_ (Int.le_of_lt hp)
 have e1 : BW ^ k * (18446744073709551616 * D) = D * (BW ^ k * BW) := by unfold BW; simp only [Int.mul_comm, Int.mul_left_comm, Int.mul_assoc]
 omega
theorem DvAt.next {V D q : Int} {P M M' S Q : List Int} {k m : Nat} (h : DvAt V D (P ++ M ++ S) Q (k + 1)) (hP : P.length = k) (hM : M.length = m + 3) (hM' : M'.length = m + 3) (hD : D <= BW ^ (m + 2))
 (hw : Dg.Wf BW P) (hwM : Dg.Wf BW M) (hwM' : Dg.Wf BW M') (hwS : Dg.Wf BW S) (hk : k < Q.length) (q0 : 0 <= q) (q1 : q < 18446744073709551616) (he : Dg.val BW M = q * D + Dg.val BW M') (hl : Dg.val BW M' < D) :
 DvAt V D (P ++ M' ++ S) (Q.set k q) k := by
 obtain ⟨hz, e1, _⟩ := h.window hP hM hD hw hwM hwS
 have hp : 0 < BW ^ k := Dg.pow_pos (by decide) k
 have p1 := Dg.val_lt (B := BW) (by decide) hw
 rw [hP] at p1
 have e2 : Dg.val BW (P ++ M' ++ S) = Dg.val BW P + BW ^ k * Dg.val BW M' := by
  rw [Dg.val_append, Dg.val_append, hz, Int.mul_zero, Int.add_zero, hP]
 have hwT : Dg.Wf BW (P ++ M' ++ S) := fun x hx => by
  rcases List.mem_append.1 hx with hx | hx
  ·rcases List.mem_append.1 hx with hx | hx
   ·exact hw x hx
   ·exact hwM' x hx
  ·exact hwS x hx
 refine ⟨hwT, h.wq.set k q0 q1, ?_, ?_⟩
 ·have h1 := h.eq
  have e3 : (Q.set k q).drop k = q :: Q.drop (k + 1) := by
   rw [List.drop_eq_getElem_cons (by simpa using hk)]
   simp [List.drop_set]
  rw [e3, e2, h1, e1, he, Int.pow_succ]
  simp only [Dg.val]
  generalize BW ^ k = p
  generalize Dg.val BW (Q.drop (k + 1)) = x
  generalize BW = B
  simp only [Int.mul_add, Int.add_mul, Int.mul_comm, Int.mul_left_comm, Int.mul_assoc]
  omega
 ·rw [e2]
  have h2 : BW ^ k * (Dg.val BW M' + 1) <= BW ^ k * D := Int.mul_le_mul_of_nonneg_left (by omega) (Int.le_of_lt hp)
  rw [Int.mul_add, Int.mul_one] at h2
  rw [Int.mul_comm D]
  omega
theorem DvAt.start {V D : Int} {T : List Int} {k : Nat} (hT : Dg.Wf BW T) (hV : Dg.val BW T = V) (hlt : V < D * BW ^ k) : DvAt V D T (List.replicate k 0) k :=
 ⟨hT, Dg.Wf.zeros (by decide) _, by rw [List.drop_of_length_le (by simp), hV]; simp [Dg.val], by rw [hV]; exact hlt⟩
theorem DvAt.done {a b : Int} {T Q : List Int} {s : Nat} (h : DvAt (a * 2 ^ s) (b * 2 ^ s) T Q 0) (hb : 0 < b) : Dg.val BW Q = a / b /\ Dg.val BW T / 2 ^ s = a % b := by
 have hp : (0 : Int) < 2 ^ s := Dg.pow_pos (by omega) s
 have t0 := Dg.val_nonneg (B := BW) (by decide) h.wt
 have he := h.eq
 have hl := h.lt
 rw [Int.pow_zero, Int.one_mul, List.drop_zero] at he
 rw [Int.pow_zero, Int.mul_one] at hl
 generalize Dg.val BW T = t at *
 generalize Dg.val BW Q = q at *
 generalize (2 : Int) ^ s = p at *
 have hm : t = (a - b * q) * p := by
  rw [Int.sub_mul, he, Int.mul_right_comm b q p]; omega
 have hr0 : 0 <= a - b * q := by
  by_cases h0 : 0 <= a - b * q
  ·exact h0
  ·have h1 : (a - b * q) * p < 0 := Int.mul_neg_of_neg_of_pos (by omega) hp
   omega
 have hr1 : a - b * q < b := by
  rw [hm] at hl
  exact Int.lt_of_mul_lt_mul_right hl (Int.le_of_lt hp)
 have hq : a / b = q := by
  rw [show a = (a - b * q) + b * q by omega, Int.add_mul_ediv_left _ _ (by omega), Int.ediv_eq_zero_of_lt hr0 hr1, Int.zero_add]
 refine ⟨hq.symm, ?_⟩
 rw [hm, Int.mul_ediv_cancel _ (by omega), Int.emod_def, hq]
theorem dv_fits {a b : Int} {s la m nq : Nat} (ha : a < BW ^ la) (ha0 : 0 <= a) (hs : s <= 63) (hD : 9223372036854775808 * BW ^ (m + 1) <= b * 2 ^ s) (hq : la = m + 1 + nq) : a * 2 ^ s < b * 2 ^ s * BW ^ nq := by
 have h63 : (2 : Int) ^ s <= 9223372036854775808 := by
  have h3 : (2:Nat) ^ s <= 2 ^ 63 := Nat.pow_le_pow_right (by omega) hs
  have e2 : (((2:Nat) ^ s : Nat) : Int) = (2:Int) ^ s := by simp
  omega
 have hp : (0 : Int) < 2 ^ s := Dg.pow_pos (by omega) s
 have h1 : a * 2 ^ s < BW ^ la * 2 ^ s := Int.mul_lt_mul_of_pos_right ha hp
 have h2 : BW ^ la * 2 ^ s <= BW ^ la * 9223372036854775808 := Int.mul_le_mul_of_nonneg_left h63 (Int.le_of_lt (Dg.pow_pos (by decide) _))
 have h3 : 9223372036854775808 * BW ^ (m + 1) * BW ^ nq <= b * 2 ^ s * BW ^ nq := Int.mul_le_mul_of_nonneg_right hD (Int.le_of_lt (Dg.pow_pos (by decide) _))
 rw [Int.mul_assoc, <- Int.pow_add, <- hq, Int.mul_comm] at h3
 omega
def DivRet (La Lb : Nat) (w : World) (m n : Int) (e : Ending) (w' : World) : Prop := Below w.heap.size w w' /\ ∃ q r, e = .returned (.tuple #[q, r]) /\ Num La w' q (m / n) /\ Num Lb w' r (m % n) /\ Frm w.heap.size q /\ Frm w.heap.size r
theorem Num.fit {L L' : Nat} {w : World} {v : Value} {n : Int} (h : Num L w v n) (hn : n < 18446744073709551616 ^ L') : Num L' w v n := by
 obtain ⟨xs, a1, a2, a3, rfl, a5⟩ := h
 exact ⟨xs, a1, a2, a3, rfl, Dg.len_le_of_val_lt (B := BW) (by decide) a2 a3 hn⟩
theorem Num.zero (L : Nat) (w : World) : Num L w (.slice none 0 0) 0 := ⟨[], Sl.nil _ _, Dg.Wf.nil _, Dg.Nz.nil, rfl, Nat.zero_le _⟩
theorem divide_less {La Lb : Nat} {va vb : Value} {m n : Int} {w : World} (ha : Num La w va m) (hb : Num Lb w vb n) (hlt : m < n) (hL : La <= 17000000000000) :
 Calls Tryz.prog 193 #[va, vb] w (DivRet La Lb w m n) := by
 have HE : Hid (m / n = 0 /\ m % n = m) := ⟨Int.ediv_eq_zero_of_lt ha.lt.1 hlt, Int.emod_eq_of_lt ha.lt.1 hlt⟩
 have HN : Hid (m < 18446744073709551616 ^ Lb) := Int.lt_trans hlt hb.lt.2
 have hcmp := compare_num ha hb
 rw [Dg.sg_lt hlt] at hcmp
 have HC := Lib.hid hcmp
 have HA := Lib.hid ha
 clear hcmp ha hb hlt
 go_enter Tryz.func193, Tryz.ntmps193
 go_wp2_with fail
 refine HC.out.mono ?_
 rintro e w1 ⟨hb1, rfl⟩
 have HB1 := Lib.hid hb1
 clear hb1
 go_wp2_with fail
 refine (tcopied_any (HA.out.below HB1.out) hL).mono ?_
 rintro e w2 ⟨hb2, v2, rfl, hn2, hf2⟩
 have HB2 := Lib.hid (HB1.out.trans (hb2.mono HB1.out.size))
 have HF := Lib.hid (hf2.mono HB1.out.size)
 have HN2 := Lib.hid hn2
 clear hb2 hf2 hn2
 go_wp2
 go_ret2
 exact ⟨HB2.out, _, _, rfl, by rw [HE.out.1]; exact Num.zero _ _, by rw [HE.out.2]; exact HN2.out.fit HN.out, Frm.nil _, HF.out⟩
theorem divide_one {La : Nat} {va vb : Value} {m y : Int} {w : World} (ha : Num La w va m) (hb : Sl .u64 w vb [y]) (hy0 : 0 < y) (hy1 : y < 18446744073709551616) (hge : y <= m) (hL : La <= 17000000000000) :
 Calls Tryz.prog 193 #[va, vb] w (DivRet La 1 w m y) := by
 obtain ⟨c, hc0, hc⟩ : ∃ c : Int, 0 <= c /\ Dg.sg m y = c := by
  refine ⟨_, ?_, rfl⟩
  rcases Int.lt_or_eq_of_le hge with h | h
  ·rw [Dg.sg_gt h]; omega
  ·rw [h, Dg.sg_eq]; omega
 have hnb : Num 1 w vb y := ⟨[y], hb, Dg.Wf.one (by omega) hy1, fun h => by simp; omega, Dg.val_one _ _, Nat.le_refl _⟩
 have hcmp := compare_num ha hnb
 rw [hc] at hcmp
 have HC := Lib.hid hcmp
 have HA := Lib.hid ha
 obtain ⟨bo, bcap, rfl, hbc, hbm, hbx⟩ := hb
 obtain ⟨b, o, rfl, hbs, hcell⟩ := hbx 0 (by simp)
 simp only [List.length_cons, List.length_nil, Nat.zero_add, List.getElem?_cons_zero, Option.getD_some, Nat.add_zero] at HC hcell ⊢
 have HCL := Lib.hid hcell
 clear hcmp ha hnb hc hbx hcell
 go_enter Tryz.func193, Tryz.ntmps193
 go_wp2_with fail
 refine HC.out.mono ?_
 rintro e w1 ⟨hb1, rfl⟩
 have HB1 := Lib.hid hb1
 have hcl := (hb1.cell (p := ⟨b, o, none⟩) hbs).trans HCL.out
 clear hb1
 go_wp2_with fail
 refine (divideByWord_num (HA.out.below HB1.out) hy0 hy1 hL).mono ?_
 rintro e w2 ⟨q, r, rfl, hb2, hn2, hr2, hf2⟩
 have HB2 := Lib.hid (HB1.out.trans (hb2.mono HB1.out.size))
 have HF := Lib.hid (hf2.mono HB1.out.size)
 have HN2 := Lib.hid hn2
 have HR := Lib.hid hr2
 have hr0 : 0 <= r := by rw [hr2]; exact Int.emod_nonneg _ (by omega)
 have hr1 : r < y := by rw [hr2]; exact Int.emod_lt_of_pos _ hy0
 clear hb2 hf2 hn2 hr2
 go_wp2_with fail
 refine (oneWord_any r _ hr0 (by omega)).mono ?_
 rintro e w3 ⟨hb3, v3, rfl, hn3, hf3⟩
 have HB3 := Lib.hid (HB2.out.trans (hb3.mono HB2.out.size))
 have HF3 := Lib.hid (hf3.mono HB2.out.size)
 have HN3 := Lib.hid hn3
 have HN4 := Lib.hid (HN2.out.below hb3)
 clear hb3 hf3 hn3
 go_wp2
 go_ret2
 exact ⟨HB3.out, _, _, rfl, HN4.out, by rw [<- HR.out]; exact HN3.out, HF.out, HF3.out⟩
theorem top_split {ys : List Int} {m : Nat} (hw : Dg.Wf BW ys) (hy : ys.length = m + 1) : ys[m]?.getD 0 * BW ^ m <= Dg.val BW ys /\ Dg.val BW ys < (ys[m]?.getD 0 + 1) * BW ^ m := by
 have e := Dg.val_take_succD BW ys m
 rw [List.take_of_length_le (by omega)] at e
 have h1 := Dg.val_lt (show (0 : Int) < BW by decide) (hw.take m)
 have h2 := Dg.val_nonneg (show (0 : Int) < BW by decide) (hw.take m)
 rw [List.length_take, Nat.min_eq_left (by omega)] at h1
 rw [e, Int.add_mul, Int.mul_comm _ (BW ^ m)]
 omega
theorem norm_val {ys : List Int} {m s : Nat} {y : Int} (hw : Dg.Wf BW ys) (hy : ys.length = m + 2) (e : y = ys[m + 1]?.getD 0) (hs : s <= 63) (h1 : 9223372036854775808 <= y * 2 ^ s) (h2 : y * 2 ^ s < 18446744073709551616) :
 9223372036854775808 * BW ^ (m + 1) <= Dg.val BW ys * 2 ^ s /\ Dg.val BW ys * 2 ^ s < BW ^ (m + 2) := by
 obtain ⟨t1, t2⟩ := top_split hw hy
 rw [<- e] at t1 t2
 have hp : (0 : Int) < 2 ^ s := Dg.pow_pos (by omega) s
 have hB : (0 : Int) < BW ^ (m + 1) := Dg.pow_pos (by decide) _
 have e64 : (2 : Int) ^ (64 - s) * 2 ^ s = 18446744073709551616 := by rw [<- Int.pow_add, show 64 - s + s = 64 by omega]; rfl
 have hyl : y + 1 <= 2 ^ (64 - s) := by
  apply Classical.byContradiction
  intro hc
  have := Int.mul_le_mul_of_nonneg_right (show (2 : Int) ^ (64 - s) <= y by omega) (Int.le_of_lt hp)
  omega
 have h3 : (y + 1) * 2 ^ s <= 18446744073709551616 := by rw [<- e64]; exact Int.mul_le_mul_of_nonneg_right hyl (Int.le_of_lt hp)
 have k1 := Int.mul_le_mul_of_nonneg_right t1 (Int.le_of_lt hp)
 have k2 := Int.mul_lt_mul_of_pos_right t2 hp
 have k3 := Int.mul_le_mul_of_nonneg_right h1 (Int.le_of_lt hB)
 have k4 := Int.mul_le_mul_of_nonneg_right h3 (Int.le_of_lt hB)
 have c1 : y * BW ^ (m + 1) * 2 ^ s = y * 2 ^ s * BW ^ (m + 1) := Int.mul_right_comm _ _ _
 have c2 : (y + 1) * BW ^ (m + 1) * 2 ^ s = (y + 1) * 2 ^ s * BW ^ (m + 1) := Int.mul_right_comm _ _ _
 have c3 : BW ^ (m + 2) = 18446744073709551616 * BW ^ (m + 1) := by rw [Int.pow_succ, Int.mul_comm]
 omega
theorem norm_len {us : List Int} {m : Nat} (hw : Dg.Wf BW us) (hn : Dg.Nz us) (h1 : 9223372036854775808 * BW ^ (m + 1) <= Dg.val BW us) (h2 : Dg.val BW us < BW ^ (m + 2)) : us.length = m + 2 /\ 9223372036854775808 <= us[m + 1]?.getD 0 := by
 have hB : (0 : Int) < BW ^ (m + 1) := Dg.pow_pos (by decide) _
 have l1 := Dg.len_le_of_val_lt (B := BW) (by decide) hw hn h2
 have l2 : m + 2 <= us.length := by
  apply Classical.byContradiction
  intro hc
  have a1 := Dg.val_lt (B := BW) (by decide) hw
  have a2 : BW ^ us.length <= BW ^ (m + 1) := Dg.pow_mono (by decide) (by omega)
  omega
 have l : us.length = m + 2 := by omega
 refine ⟨l, ?_⟩
 have t2 := (top_split hw l).2
 apply Classical.byContradiction
 intro hc
 have := Int.mul_le_mul_of_nonneg_right (show us[m + 1]?.getD 0 + 1 <= 9223372036854775808 by omega) (Int.le_of_lt hB)
 omega
theorem splice_zeros (zs : List Int) (n : Nat) (h : zs.length <= n) : splice (List.replicate n (Value.int .u64 0)) 0 (zs.map (Value.int .u64)) = (zs ++ List.replicate (n - zs.length) 0).map (Value.int .u64) := by
 simp [splice]
end Go.Proofs.YtdnheaafcbihbaaGreat
