/-
  Texts of the proof, merged by program: Rtm Rtn.
-/
import Derived.Test.YtfhhnfpapgfnmaaZRtq
import Derived.Test.YtfhhnfpapgfnmaaZRtc3
set_option linter.unusedVariables false
set_option linter.unusedSimpArgs false
namespace Go.Proofs.Ytfhhnfpapgfnmaa
open Go Go.RowKit Go.Deep
open FFld (ints)
/-- The product of x less each of the first i conjugates. -/
def minF (D : FFld.FD) (h : FFld.PK D.p D.k D.m) (a : Nat) : Nat → List Nat
  | 0 => [1]
  | i + 1 => FFld.mulL D (minF D h a i) [FFld.pscl D.p D.k (D.p - 1) (cjg h a i), 1]
theorem mulL_len2 (D : FFld.FD) (pl : List Nat) (x y : Nat) (h : 0 < pl.length) : (FFld.mulL D pl [x, y]).length = pl.length + 1 := by
  unfold FFld.mulL
  rw [if_neg (by simp; intro e; rw [e] at h; simp at h), FFld.mulF_len]
  simp
theorem minF_len (D : FFld.FD) (h : FFld.PK D.p D.k D.m) (a i : Nat) : (minF D h a i).length = i + 1 := by
  induction i with
  | zero => rfl
  | succ i ih => simp only [minF]; rw [mulL_len2 _ _ _ _ (by omega), ih]
theorem minF_lt {D : FFld.FD} (h : FFld.PK D.p D.k D.m) (a i : Nat) : ∀ x ∈ minF D h a i, x < D.p ^ D.k := by
  cases i with
  | zero => intro x hx; simp only [minF, List.mem_singleton] at hx; subst hx; exact h.one_lt
  | succ i => exact FFld.mulL_lt h _ _
/-- How many different conjugates there are. -/
def MinT {D : FFld.FD} (h : FFld.PK D.p D.k D.m) (a t : Nat) : Prop := 1 ≤ t ∧ t ≤ D.k ∧ (∀ i, 0 < i → i < t → cjg h a i ≠ a) ∧ (t < D.k → cjg h a t = a)
theorem MinT.exists {D : FFld.FD} (h : FFld.PK D.p D.k D.m) (a : Nat) : ∃ t, MinT h a t := by
  obtain ⟨t, ht, hl⟩ := FFld.exists_least (P := fun t => 1 ≤ t ∧ (cjg h a t = a ∨ D.k ≤ t)) D.k ⟨h.k1, .inr (Nat.le_refl _)⟩
  have htk : t ≤ D.k := by
    apply Classical.byContradiction
    intro hc
    exact hl D.k (by omega) ⟨h.k1, .inr (Nat.le_refl _)⟩
  refine ⟨t, ht.1, htk, fun i h0 hi e => hl i hi ⟨h0, .inl e⟩, fun hlt => ?_⟩
  rcases ht.2 with h2 | h2
  · exact h2
  · omega
theorem two_sl (W : World) (x y : Int) : Sl .i64 (W.alloc (.cells #[.int .i64 x, .int .i64 y] 3)) (.slice (some ⟨W.heap.size, 0, none⟩) 2 2) [x, y] := by
  refine ⟨_, 2, rfl, Nat.le_refl _, by unfold maxLen; omega, fun i hi => ⟨W.heap.size, 0, rfl, by simp, ?_⟩⟩
  rw [Nat.zero_add]
  exact (Row.new (E := 3) (K := .i64) W [x, y]).cell (i := i) hi
theorem one_sln (W : World) (x : Int) : Sl .i64 (W.alloc (.cells #[.int .i64 x] 3)) (.slice (some ⟨W.heap.size, 0, none⟩) 1 1) [x] := by
  refine ⟨_, 1, rfl, Nat.le_refl _, by unfold maxLen; omega, fun i hi => ⟨W.heap.size, 0, rfl, by simp, ?_⟩⟩
  rw [Nat.zero_add]
  exact (Row.new (E := 3) (K := .i64) W [x]).cell (i := i) hi
theorem two_lt {D : FFld.FD} (h : FFld.PK D.p D.k D.m) {z : Nat} (hz : z < D.p ^ D.k) : ∀ a ∈ [z, 1], a < D.p ^ D.k := fun a ha => by
  rcases List.mem_cons.1 ha with rfl | ha
  · exact hz
  · rw [List.mem_singleton.1 ha]; exact h.one_lt
set_option maxRecDepth 20000 in
set_option maxHeartbeats 4000000 in
/-- The reference's minimal polynomial. -/
theorem rminimal_any {D : FFld.FD} (hD : D.Ok) (a t : Nat) (w : World) (ha : a < D.p ^ D.k) (ht : MinT hD.pre.pk a t) :
    Calls Try.prog 61 #[rfv D.q D.p D.k D.m, .int .i64 a] w (fun e w' => Below w.heap.size w w' ∧ ∃ v, e = .returned v ∧ Sl .i64 w' v (ints (minF D hD.pre.pk a t))) := by
  have HX0 : Kept (Bxs w [rbox D.q D.p D.k D.m] (w.alloc (rbox D.q D.p D.k D.m))) := ⟨(Bxs.start w).alloc (by simp) _⟩
  have hq6 : D.p ^ D.k ≤ 65536 := hD.pre.small
  have hk40 : D.k ≤ 40 := FFld.len_of_pow (Nat.pow_le_pow_left hD.pre.prime.1 _) (show D.p ^ D.k ≤ 1099511627776 by omega)
  have HL := Kept.mk (fun i => cjg_lt hD.pre.pk a ha i)
  have ha6 : a ≤ 65536 := by omega
  have hC := Kept.mk (fun W => rconj_any hD a W ha)
  have HN := Kept.mk (fun W x (hx : x < D.p ^ D.k) => rneg_any D.q D.p D.k D.m x W hD.pre.pk.p2 hD.pre.pk.k1 hx hq6)
  have HPD := Kept.mk (fun vp vq pl ql W h1 h2 h3 h4 h5 h6 => rproductp_any hD vp vq pl ql W h1 h2 h3 h4 h5 h6)
  have HT := Kept.mk ht
  have ht1 := ht.1
  have htk := ht.2.1
  clear ha ht hq6
  go_enter Try.func61, Try.ntmps61
  obtain ⟨c0, c1, c2, c3⟩ := four_cells HX0.out.b0
  go_wp2_with fail
  refine (hC.out _).mono ?_
  rintro e w1 ⟨hb1, v, xs, rfl, hsl, hxl, hxs⟩
  obtain ⟨k, hk⟩ : ∃ k, D.k = k := ⟨_, rfl⟩
  obtain ⟨a1, cp1, rfl, hc1, hm1⟩ := hsl.form
  have HX1 := Kept.mk (HX0.out.below hb1)
  rw [hk] at hxl htk hk40
  rw [FFld.ints_len, hxl] at hc1 hsl ⊢
  have hal : Below w1.heap.size w1 (w1.alloc (.cells #[.int .i64 1] 3)) := (Below.refl _ _).alloc (Nat.le_refl _) _
  have HC1 := Kept.mk (hsl.cells (Nat.le_refl _))
  have HX := Kept.mk (fun j (hj : j < k) => hxs j (by rw [hk]; exact hj))
  have HXL := Kept.mk hxl
  have HS1 : Kept (Sl .i64 (w1.alloc (.cells #[.int .i64 1] 3)) (.slice (some ⟨w1.heap.size, 0, none⟩) 1 1) (ints (minF D hD.pre.pk a 0))) := ⟨one_sln w1 1⟩
  have HX2 := Kept.mk (HX1.out.below hal)
  have HB1 := Kept.mk hal
  have HTE : Kept (t < k → cjg hD.pre.pk a t = a) := ⟨fun h => HT.out.2.2.2 (by rw [hk]; exact h)⟩
  clear hsl hb1 hxs hC c0 c1 c2 c3 hk hal hxl
  go_wp2
  go_loopw [6, 7] (fun ov iv wr => ∃ (i oc : Nat) (oa : Option Addr), i ≤ t ∧ iv = .int .i64 i ∧ ov = .slice oa (i + 1) oc ∧ Kept (Sl .i64 wr (.slice oa (i + 1) oc) (ints (minF D hD.pre.pk a i))) ∧ Kept (Bxs w [rbox D.q D.p D.k D.m] wr) ∧ Kept (Below w1.heap.size w1 wr)) (fun _ iv _ => t - (intOf iv).toNat)
  case atStart => exact ⟨0, 1, _, Nat.zero_le _, rfl, rfl, HS1, HX2, HB1⟩
  case round =>
    obtain ⟨i, oc, oa, hit, rfl, rfl, hso, hbx, hbw⟩ := hrel
    by_cases hlt : i < t
    · have hik : i < k := by omega
      obtain ⟨bb, o, rfl, ic⟩ := HC1.out _ hbw.out i (by rw [HXL.out]; exact hik)
      obtain ⟨c, hc⟩ : ∃ c, cjg hD.pre.pk a i = c := ⟨_, rfl⟩
      rw [HX.out i hik, hc] at ic
      have hcl : c < D.p ^ D.k := by rw [← hc]; exact HL.out i
      have hc6 : c ≤ 65536 := el_le hD hcl
      obtain ⟨z, hz⟩ : ∃ z, FFld.pscl D.p D.k (D.p - 1) c = z := ⟨_, rfl⟩
      have hzq : z < D.p ^ D.k := by rw [← hz]; exact FFld.pscl_lt hD.pre.pk _ _
      have HNX : Kept (minF D hD.pre.pk a (i + 1) = FFld.mulL D (minF D hD.pre.pk a i) [z, 1]) := ⟨by simp only [minF]; rw [hc, hz]⟩
      have hN := Kept.mk (fun W => HN.out W c hcl)
      rw [hz] at hN
      have HZ2 := Kept.mk (two_lt hD.pre.pk hzq)
      have HML : Kept ((minF D hD.pre.pk a i).length ≤ 100000) := ⟨by rw [minF_len]; omega⟩
      have HMQ := Kept.mk (minF_lt hD.pre.pk a i)
      obtain ⟨i0, i1, i2, i3⟩ := four_cells hbx.out.b0
      have hal : ∀ W : World, Below W.heap.size W (W.alloc (.cells #[.int .i64 (z : Int), .int .i64 1] 3)) := fun W => (Below.refl _ _).alloc (Nat.le_refl _) _
      have hne : 0 < i → ¬ (c : Int) = (a : Int) := fun h0 e => HT.out.2.2.1 i h0 hlt (by rw [hc]; omega)
      have HNE := Kept.mk hne
      clear hz hc hzq hcl hne
      by_cases hi0 : i = 0
      · subst hi0
        rw [Nat.add_zero] at ic
        go_wp2
        go_region_held3 (fun w' => w'.cell? ⟨w.heap.size, 0, none⟩ = some (.int .i64 D.q) ∧ w'.cell? ⟨w.heap.size, 1, none⟩ = some (.int .i64 D.p) ∧ w'.cell? ⟨w.heap.size, 2, none⟩ = some (.int .i64 D.k) ∧ w'.cell? ⟨w.heap.size, 3, none⟩ = some (.int .i64 D.m) ∧ w'.cell? ⟨bb, o, none⟩ = some (.int .i64 c))
          (first | exact ⟨m0, m1, m2, m3, mc⟩ | exact ⟨k0, k1, k2, k3, kc⟩ | exact ⟨j0, j1, j2, j3, jc⟩ | exact ⟨i0, i1, i2, i3, ic⟩ | go_keep)
          ((first
            | (go_at_call 113; (with_reducible refine (hN.out _).mono ?_); rintro e v3 ⟨hb3, rfl⟩; have HB3 := Kept.mk (bstep (show Below wr.heap.size wr _ from (by first | exact Below.refl _ _ | exact (Below.refl _ _).drew)) hb3); have j0 := belowCell HB3.out i0; have j1 := belowCell HB3.out i1; have j2 := belowCell HB3.out i2; have j3 := belowCell HB3.out i3; have jc := belowCell HB3.out ic; have k0 := belowCell (hal v3) j0; have k1 := belowCell (hal v3) j1; have k2 := belowCell (hal v3) j2; have k3 := belowCell (hal v3) j3; have kc := belowCell (hal v3) jc; have HSO := Kept.mk ((hso.out.below HB3.out).below (hal v3)); have HS2 := Kept.mk (two_sl v3 (z : Int) 1); have HB4 := Kept.mk (bstep HB3.out (hal v3)); clear hb3)
            | (go_at_call 66; (refine (HPD.out _ _ _ [z, 1] _ HSO.out HS2.out HMQ.out HZ2.out HML.out (by simp)).mono ?_); rintro e v5 ⟨hb5, vo, rfl, hs5⟩; have HB5 := Kept.mk (bstep HB4.out hb5); have m0 := belowCell hb5 k0; have m1 := belowCell hb5 k1; have m2 := belowCell hb5 k2; have m3 := belowCell hb5 k3; have mc := belowCell hb5 kc; clear hb5)))
        have HX9 := Kept.mk (hbx.out.below HB5.out)
        have HB9 := Kept.mk (bstep hbw.out HB5.out)
        obtain ⟨oa5, oc5, rfl, ho5, hm5⟩ := hs5.form
        have HS5 : Kept (Sl .i64 v5 (.slice oa5 (0 + 1 + 1) oc5) (ints (minF D hD.pre.pk a (0 + 1)))) := ⟨by
          rw [HNX.out]
          have e : (ints (FFld.mulL D (minF D hD.pre.pk a 0) [z, 1])).length = 0 + 1 + 1 := by rw [FFld.ints_len, ← HNX.out, minF_len]
          rw [e] at hs5
          exact hs5⟩
        have e5 : (ints (FFld.mulL D (minF D hD.pre.pk a 0) [z, 1])).length = 0 + 1 + 1 := by rw [FFld.ints_len, ← HNX.out, minF_len]
        rw [e5]
        clear hs5 e5 ho5
        go_wp2
        go_roundw
        case rel => exact ⟨0 + 1, oc5, oa5, by omega, by go_num, rfl, HS5, HX9, HB9⟩
        case measure => simp [intOf] <;> omega
      · have e0 : ((i : Int) == 0) = false := by rw [beq_eq_false_iff_ne]; omega
        have e1 : ((c : Int) == (a : Int)) = false := by rw [beq_eq_false_iff_ne]; exact HNE.out (by omega)
        go_wp2
        go_region_held3 (fun w' => w'.cell? ⟨w.heap.size, 0, none⟩ = some (.int .i64 D.q) ∧ w'.cell? ⟨w.heap.size, 1, none⟩ = some (.int .i64 D.p) ∧ w'.cell? ⟨w.heap.size, 2, none⟩ = some (.int .i64 D.k) ∧ w'.cell? ⟨w.heap.size, 3, none⟩ = some (.int .i64 D.m) ∧ w'.cell? ⟨bb, o + i, none⟩ = some (.int .i64 c))
          (first | exact ⟨m0, m1, m2, m3, mc⟩ | exact ⟨k0, k1, k2, k3, kc⟩ | exact ⟨j0, j1, j2, j3, jc⟩ | exact ⟨i0, i1, i2, i3, ic⟩ | go_keep)
          ((first
            | (go_at_call 113; (with_reducible refine (hN.out _).mono ?_); rintro e v3 ⟨hb3, rfl⟩; have HB3 := Kept.mk (bstep (show Below wr.heap.size wr _ from (by first | exact Below.refl _ _ | exact (Below.refl _ _).drew)) hb3); have j0 := belowCell HB3.out i0; have j1 := belowCell HB3.out i1; have j2 := belowCell HB3.out i2; have j3 := belowCell HB3.out i3; have jc := belowCell HB3.out ic; have k0 := belowCell (hal v3) j0; have k1 := belowCell (hal v3) j1; have k2 := belowCell (hal v3) j2; have k3 := belowCell (hal v3) j3; have kc := belowCell (hal v3) jc; have HSO := Kept.mk ((hso.out.below HB3.out).below (hal v3)); have HS2 := Kept.mk (two_sl v3 (z : Int) 1); have HB4 := Kept.mk (bstep HB3.out (hal v3)); clear hb3)
            | (go_at_call 66; (refine (HPD.out _ _ _ [z, 1] _ HSO.out HS2.out HMQ.out HZ2.out HML.out (by simp)).mono ?_); rintro e v5 ⟨hb5, vo, rfl, hs5⟩; have HB5 := Kept.mk (bstep HB4.out hb5); have m0 := belowCell hb5 k0; have m1 := belowCell hb5 k1; have m2 := belowCell hb5 k2; have m3 := belowCell hb5 k3; have mc := belowCell hb5 kc; clear hb5)))
        have HX9 := Kept.mk (hbx.out.below HB5.out)
        have HB9 := Kept.mk (bstep hbw.out HB5.out)
        obtain ⟨oa5, oc5, rfl, ho5, hm5⟩ := hs5.form
        have e5 : (ints (FFld.mulL D (minF D hD.pre.pk a i) [z, 1])).length = i + 1 + 1 := by rw [FFld.ints_len, ← HNX.out, minF_len]
        have HS5 : Kept (Sl .i64 v5 (.slice oa5 (i + 1 + 1) oc5) (ints (minF D hD.pre.pk a (i + 1)))) := ⟨by
          rw [HNX.out]
          rw [e5] at hs5
          exact hs5⟩
        rw [e5]
        clear hs5 e5 ho5
        go_wp2
        go_roundw
        case rel => exact ⟨i + 1, oc5, oa5, by omega, by go_num, rfl, HS5, HX9, HB9⟩
        case measure => simp [intOf] <;> omega
    · obtain rfl : i = t := by omega
      by_cases hik : i < k
      · obtain ⟨bb, o, rfl, ic⟩ := HC1.out _ hbw.out i (by rw [HXL.out]; exact hik)
        rw [HX.out i hik, HTE.out hik] at ic
        have e0 : ((i : Int) == 0) = false := by rw [beq_eq_false_iff_ne]; omega
        have e1 : ((a : Int) == (a : Int)) = true := by simp
        go_wp2
        go_ret
        exact ⟨hbx.out.1, _, rfl, hso.out⟩
      · go_wp2
        go_ret
        exact ⟨hbx.out.1, _, rfl, hso.out⟩
end Go.Proofs.Ytfhhnfpapgfnmaa

set_option linter.unusedVariables false
set_option linter.unusedSimpArgs false
namespace Go.Proofs.Ytfhhnfpapgfnmaa
open Go Go.RowKit Go.Deep
open FFld (ints)
set_option maxRecDepth 20000 in
set_option maxHeartbeats 4000000 in
/-- The minimal polynomial. -/
theorem fminimal_any {D : FFld.FD} {b : Nat} (hD : D.Ok) (y : Int) (a t : Nat) (w : World) (hf : FldB D w b) (hx0 : -9223372036854775808 ≤ y) (hx1 : y ≤ 9223372036854775807) (hr : y % D.q = a) (ha : a < D.p ^ D.k) (ht : MinT hD.pre.pk a t) :
    Calls Try.prog 46 #[.pointer (some ⟨b, 0, none⟩), .int .i64 y] w (fun e w' => Below w.heap.size w w' ∧ ∃ v, e = .returned v ∧ Sl .i64 w' v (ints (minF D hD.pre.pk a t))) := by

  have hk40 : D.k ≤ 40 := FFld.len_of_pow (Nat.pow_le_pow_left hD.pre.prime.1 _) (show D.p ^ D.k ≤ 1099511627776 by have h6 : D.p ^ D.k ≤ 65536 := hD.pre.small; omega)
  have HR := Kept.mk (fun W (hf : FldB D W b) => show Calls Try.prog 89 #[.pointer (some ⟨b, 0, none⟩), .int .i64 y] W (fun e w' => W = w' ∧ e = .returned (.int .i64 (a : Nat))) from by rw [← hr]; exact reduced_any y W hf hx0 hx1)
  have HL := Kept.mk (fun i => cjg_lt hD.pre.pk a ha i)
  have ha6 := el_le hD ha
  have HC := Kept.mk (fun W (hf : FldB D W b) => conjugates_any hD a W hf ha)
  have HN := Kept.mk (fun W x (hf : FldB D W b) (hx : x < D.p ^ D.k) => negative_any x W hf hx)
  have HPD := Kept.mk (fun vp vq pl ql W (hf : FldB D W b) h1 h2 h3 h4 h5 h6 => multiply_any hD vp vq pl ql W hf h1 h2 h3 h4 h5 h6)
  have HT := Kept.mk ht
  have ht1 := ht.1
  have htk := ht.2.1
  have HF := Kept.mk hf
  have hal : ∀ W : World, Below W.heap.size W (W.alloc (.cells #[.int .i64 1] 3)) := fun W => (Below.refl _ _).alloc (Nat.le_refl _) _
  have HS1 : Kept (Sl .i64 (w.alloc (.cells #[.int .i64 1] 3)) (.slice (some ⟨w.heap.size, 0, none⟩) 1 1) (ints (minF D hD.pre.pk a 0))) := ⟨one_sln w 1⟩
  have HF1 := Kept.mk (hf.below (hal w))
  have HB1 := Kept.mk (hal w)
  clear ha ht hr hf
  go_enter Try.func46, Try.ntmps46
  go_wp2_with fail
  refine (HR.out _ HF1.out).mono ?_
  rintro e w2 ⟨rfl, rfl⟩
  go_wp2_with fail
  refine (HC.out _ HF1.out).mono ?_
  rintro e w3 ⟨hb3, v, xs, rfl, hsl, hxl, hxs⟩
  obtain ⟨k, hk⟩ : ∃ k, D.k = k := ⟨_, rfl⟩
  obtain ⟨a1, cp1, rfl, hc1, hm1⟩ := hsl.form
  rw [hk] at hxl htk hk40
  rw [FFld.ints_len, hxl] at hc1 hsl ⊢
  have HC1 := Kept.mk (hsl.cells (Nat.le_refl _))
  have HX := Kept.mk (fun j (hj : j < k) => hxs j (by rw [hk]; exact hj))
  have HXL := Kept.mk hxl
  have HS3 := Kept.mk (HS1.out.below hb3)
  have HB3 := Kept.mk (bstep HB1.out hb3)
  have HTE : Kept (t < k → cjg hD.pre.pk a t = a) := ⟨fun h => HT.out.2.2.2 (by rw [hk]; exact h)⟩
  clear hsl hb3 hxs hk hal hxl HF1 HB1 HS1
  go_wp2
  go_loopw [5, 17] (fun ov iv wr => ∃ (i oc : Nat) (oa : Option Addr), i ≤ t ∧ iv = .int .i64 i ∧ ov = .slice oa (i + 1) oc ∧ Kept (Sl .i64 wr (.slice oa (i + 1) oc) (ints (minF D hD.pre.pk a i))) ∧ Kept (Below w3.heap.size w3 wr)) (fun _ iv _ => t - (intOf iv).toNat)
  case atStart => exact ⟨0, 1, _, Nat.zero_le _, rfl, rfl, HS3, ⟨Below.refl _ _⟩⟩
  case round =>
    obtain ⟨i, oc, oa, hit, rfl, rfl, hso, hbw⟩ := hrel
    have HFW := Kept.mk (HF.out.below (bstep HB3.out hbw.out))
    by_cases hlt : i < t
    · have hik : i < k := by omega
      obtain ⟨bb, o, rfl, ic⟩ := HC1.out _ hbw.out i (by rw [HXL.out]; exact hik)
      obtain ⟨c, hc⟩ : ∃ c, cjg hD.pre.pk a i = c := ⟨_, rfl⟩
      rw [HX.out i hik, hc] at ic
      have hcl : c < D.p ^ D.k := by rw [← hc]; exact HL.out i
      have hc6 : c ≤ 65536 := el_le hD hcl
      obtain ⟨z, hz⟩ : ∃ z, FFld.pscl D.p D.k (D.p - 1) c = z := ⟨_, rfl⟩
      have hzq : z < D.p ^ D.k := by rw [← hz]; exact FFld.pscl_lt hD.pre.pk _ _
      have HNX : Kept (minF D hD.pre.pk a (i + 1) = FFld.mulL D (minF D hD.pre.pk a i) [z, 1]) := ⟨by simp only [minF]; rw [hc, hz]⟩
      have hN := Kept.mk (fun W hf => HN.out W c hf hcl)
      rw [hz] at hN
      have HZ2 := Kept.mk (two_lt hD.pre.pk hzq)
      have HML : Kept ((minF D hD.pre.pk a i).length ≤ 100000) := ⟨by rw [minF_len]; omega⟩
      have HMQ := Kept.mk (minF_lt hD.pre.pk a i)
      have hal : ∀ W : World, Below W.heap.size W (W.alloc (.cells #[.int .i64 (z : Int), .int .i64 1] 3)) := fun W => (Below.refl _ _).alloc (Nat.le_refl _) _
      have hne : 0 < i → ¬ (c : Int) = (a : Int) := fun h0 e => HT.out.2.2.1 i h0 hlt (by rw [hc]; omega)
      have HNE := Kept.mk hne
      clear hz hc hzq hcl hne
      by_cases hi0 : i = 0
      · subst hi0
        rw [Nat.add_zero] at ic
        have eg : decide (((0 : Nat) : Int) > 0) = false := rfl
        go_wp2_with fail
        refine (hN.out _ HFW.out).mono ?_
        rintro e v3 ⟨hb3, rfl⟩
        have HF4 := Kept.mk ((HFW.out.below hb3).below (hal v3))
        have HSO := Kept.mk ((hso.out.below hb3).below (hal v3))
        have HS2 := Kept.mk (two_sl v3 (z : Int) 1)
        have HB4 := Kept.mk (bstep hb3 (hal v3))
        clear hb3
        go_wp2_with fail
        refine (HPD.out _ _ _ [z, 1] _ HF4.out HSO.out HS2.out HMQ.out HZ2.out HML.out (by simp)).mono ?_
        rintro e v5 ⟨hb5, vo, rfl, hs5⟩
        have HB9 := Kept.mk (bstep hbw.out (bstep HB4.out hb5))
        obtain ⟨oa5, oc5, rfl, ho5, hm5⟩ := hs5.form
        have e5 : (ints (FFld.mulL D (minF D hD.pre.pk a 0) [z, 1])).length = 0 + 1 + 1 := by rw [FFld.ints_len, ← HNX.out, minF_len]
        have HS5 : Kept (Sl .i64 v5 (.slice oa5 (0 + 1 + 1) oc5) (ints (minF D hD.pre.pk a (0 + 1)))) := ⟨by
          rw [HNX.out]
          rw [e5] at hs5
          exact hs5⟩
        rw [e5]
        clear hs5 e5 ho5 hb5
        go_wp2
        go_roundw
        case rel => exact ⟨0 + 1, oc5, oa5, by omega, by go_num, rfl, HS5, HB9⟩
        case measure => simp [intOf] <;> omega
      · have eg : decide ((i : Int) > 0) = true := by rw [decide_eq_true_eq]; omega
        have e1 : ((c : Int) == (a : Int)) = false := by rw [beq_eq_false_iff_ne]; exact HNE.out (by omega)
        go_wp2_with fail
        refine (HR.out _ HFW.out).mono ?_
        rintro e w5 ⟨rfl, rfl⟩
        go_wp2_with fail
        refine (hN.out _ HFW.out).mono ?_
        rintro e v3 ⟨hb3, rfl⟩
        have HF4 := Kept.mk ((HFW.out.below hb3).below (hal v3))
        have HSO := Kept.mk ((hso.out.below hb3).below (hal v3))
        have HS2 := Kept.mk (two_sl v3 (z : Int) 1)
        have HB4 := Kept.mk (bstep hb3 (hal v3))
        clear hb3
        go_wp2_with fail
        refine (HPD.out _ _ _ [z, 1] _ HF4.out HSO.out HS2.out HMQ.out HZ2.out HML.out (by simp)).mono ?_
        rintro e v5 ⟨hb5, vo, rfl, hs5⟩
        have HB9 := Kept.mk (bstep hbw.out (bstep HB4.out hb5))
        obtain ⟨oa5, oc5, rfl, ho5, hm5⟩ := hs5.form
        have e5 : (ints (FFld.mulL D (minF D hD.pre.pk a i) [z, 1])).length = i + 1 + 1 := by rw [FFld.ints_len, ← HNX.out, minF_len]
        have HS5 : Kept (Sl .i64 v5 (.slice oa5 (i + 1 + 1) oc5) (ints (minF D hD.pre.pk a (i + 1)))) := ⟨by
          rw [HNX.out]
          rw [e5] at hs5
          exact hs5⟩
        rw [e5]
        clear hs5 e5 ho5 hb5
        go_wp2
        go_roundw
        case rel => exact ⟨i + 1, oc5, oa5, by omega, by go_num, rfl, HS5, HB9⟩
        case measure => simp [intOf] <;> omega
    · obtain rfl : i = t := by omega
      by_cases hik : i < k
      · obtain ⟨bb, o, rfl, ic⟩ := HC1.out _ hbw.out i (by rw [HXL.out]; exact hik)
        rw [HX.out i hik, HTE.out hik] at ic
        have eg : decide ((i : Int) > 0) = true := by rw [decide_eq_true_eq]; omega
        have e1 : ((a : Int) == (a : Int)) = true := by simp
        go_wp2_with fail
        refine (HR.out _ HFW.out).mono ?_
        rintro e w5 ⟨rfl, rfl⟩
        go_wp2
        go_ret
        exact ⟨bstep HB3.out hbw.out, _, rfl, hso.out⟩
      · go_wp2
        go_ret
        exact ⟨bstep HB3.out hbw.out, _, rfl, hso.out⟩
end Go.Proofs.Ytfhhnfpapgfnmaa
