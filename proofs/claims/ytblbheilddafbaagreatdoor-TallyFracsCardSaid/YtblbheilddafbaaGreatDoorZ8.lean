/-
  Texts of the proof, merged by program: Plus.
-/
import Derived.Test.YtblbheilddafbaaGreatDoorZ7
set_option linter.unusedVariables false
set_option linter.unusedSimpArgs false
namespace Go.Proofs.YtblbheilddafbaaGreatDoor
open Go Go.RowKit
theorem sgn_mul {y z : Int} {sa sb : Bool} (ha : sa = decide (y < 0)) (hb : sb = decide (z < 0)) : sgn (sa != sb) ((y.natAbs : Int) * z.natAbs) = y * z := by
  subst ha hb
  unfold sgn
  by_cases h1 : y < 0 <;> by_cases h2 : z < 0
  · have e1 : (y.natAbs : Int) = -y := by omega
    have e2 : (z.natAbs : Int) = -z := by omega
    simp [h1, h2, e1, e2, Int.neg_mul, Int.mul_neg]
  · have e1 : (y.natAbs : Int) = -y := by omega
    have e2 : (z.natAbs : Int) = z := by omega
    simp [h1, h2, e1, e2, Int.neg_mul, Int.mul_neg]
  · have e1 : (y.natAbs : Int) = y := by omega
    have e2 : (z.natAbs : Int) = -z := by omega
    simp [h1, h2, e1, e2, Int.neg_mul, Int.mul_neg]
  · have e1 : (y.natAbs : Int) = y := by omega
    have e2 : (z.natAbs : Int) = z := by omega
    simp [h1, h2, e1, e2]
theorem sgn_same {y z : Int} {sa sb : Bool} (ha : sa = decide (y < 0)) (hb : sb = decide (z < 0)) (h : sa = sb) : sgn sa ((y.natAbs : Int) + z.natAbs) = y + z := by
  subst ha hb
  unfold sgn
  have h' : (y < 0) ↔ (z < 0) := by simpa using h
  by_cases h1 : y < 0
  · have := h'.1 h1
    simp [h1]; omega
  · have : ¬ z < 0 := fun k => h1 (h'.2 k)
    simp [h1]; omega
theorem sgn_less {y z : Int} {sa sb : Bool} (ha : sa = decide (y < 0)) (hb : sb = decide (z < 0)) (h : sa ≠ sb) : sgn sb ((z.natAbs : Int) - y.natAbs) = y + z := by
  subst ha hb
  unfold sgn
  by_cases h1 : y < 0 <;> by_cases h2 : z < 0 <;> simp [h1, h2] at h ⊢ <;> omega
theorem sgn_more {y z : Int} {sa sb : Bool} (ha : sa = decide (y < 0)) (hb : sb = decide (z < 0)) (h : sa ≠ sb) : sgn sa ((y.natAbs : Int) - z.natAbs) = y + z := by
  subst ha hb
  unfold sgn
  by_cases h1 : y < 0 <;> by_cases h2 : z < 0 <;> simp [h1, h2] at h ⊢ <;> omega
set_option maxRecDepth 20000 in
set_option maxHeartbeats 4000000 in
theorem times_any {La Lb : Nat} {va vb : Value} {y z : Int} {w : World} (ha : IntV La w va y) (hb : IntV Lb w vb z) (h1 : La ≤ 536870912) (h2 : Lb ≤ 536870912) :
    Calls Tryz.prog 97 #[va, vb] w (RetInt (La + Lb) w (y * z)) := by
  obtain ⟨LL, hLL⟩ : ∃ LL, LL = La + Lb := ⟨_, rfl⟩
  rw [← hLL]
  obtain ⟨sa, ua, rfl, hsa, hna⟩ := ha
  obtain ⟨sb, ub, rfl, hsb, hnb⟩ := hb
  obtain ⟨ao, ka, ca, rfl⟩ := hna.form
  obtain ⟨bo, kb, cb, rfl⟩ := hnb.form
  have hb0 : Below w.heap.size w (((w.alloc (.cells #[.bool sa, .slice ao ka ca] 30)).alloc (.cells #[.bool sb, .slice bo kb cb] 30)).alloc (.cells #[.bool false, .slice none 0 0] 30)) := (((Below.refl _ _).alloc (Nat.le_refl _) _).alloc (by simp) _).alloc (by simp; omega) _
  have HNA := Lib.hid (hna.below hb0)
  have HNB := Lib.hid (hnb.below hb0)
  have HB := Lib.hid hb0
  have HBX : Hid ((((w.alloc (.cells #[.bool sa, .slice ao ka ca] 30)).alloc (.cells #[.bool sb, .slice bo kb cb] 30)).alloc (.cells #[.bool false, .slice none 0 0] 30)).heap[w.heap.size + 2]? = some (.cells #[.bool false, .slice none 0 0] 30 (0, 0))) := heap_last _ _ _ (by simp)
  have HSA := Lib.hid hsa
  have HSB := Lib.hid hsb
  clear hna hnb hb0 hsa hsb
  go_enter Tryz.func97, Tryz.ntmps97
  go_wp2_with fail
  go_region_held3 (fun w' => w'.cell? ⟨w.heap.size, 0, none⟩ = some (.bool sa) ∧ w'.cell? ⟨w.heap.size, 1, none⟩ = some (.slice ao ka ca) ∧ w'.cell? ⟨w.heap.size + 1, 0, none⟩ = some (.bool sb) ∧ w'.cell? ⟨w.heap.size + 1, 1, none⟩ = some (.slice bo kb cb))
    (first | exact ⟨kd0, kd1, kd2, kd3⟩ | exact ⟨kc0, kc1, kc2, kc3⟩ | exact ⟨ke0, ke1, ke2, ke3⟩ | (refine ⟨?_, ?_, ?_, ?_⟩ <;> simp [go_sem, kd0, kd1, kd2, kd3]; done) | (refine ⟨?_, ?_, ?_, ?_⟩ <;> simp [go_sem]; done) | go_keep)
    ((first | (go_at_call 123; refine (product_num (La := La) (Lb := Lb) (m := y.natAbs) (n := z.natAbs) (by exact HNA.out) (by exact HNB.out) (by omega) (by omega)).mono ?_; rintro e w1 ⟨hb1, v1, rfl, hn1, hf1⟩; have s1 := hb1.size; simp at s1; have kc0 := belowCell hb1 (v := .bool sa) (b := w.heap.size) (o := 0) (by simp [go_sem]); have kc1 := belowCell hb1 (v := .slice ao ka ca) (b := w.heap.size) (o := 1) (by simp [go_sem]); have kc2 := belowCell hb1 (v := .bool sb) (b := w.heap.size + 1) (o := 0) (by simp [go_sem]); have kc3 := belowCell hb1 (v := .slice bo kb cb) (b := w.heap.size + 1) (o := 1) (by simp [go_sem])) | (go_at_call 83; refine (signed_any (sa != sb) hn1).mono ?_; rintro e w2 ⟨hb2, v2, rfl, s, sv, rfl, hs, hn2⟩; have HS := Lib.hid hs; clear hs; obtain ⟨ao2, k2, c2, rfl⟩ := hn2.form; have s2 := hb2.size; have kd0 := belowCell hb2 kc0; have kd1 := belowCell hb2 kc1; have kd2 := belowCell hb2 kc2; have kd3 := belowCell hb2 kc3; have hbx : w2.heap[w.heap.size + 2]? = some (.cells #[.bool false, .slice none 0 0] 30 (0, 0)) := (hb2.block _ (by omega)).trans ((hb1.block _ (by simp)).trans HBX.out); obtain ⟨c0, c1, f0, f1⟩ := two_cells hbx; have hsz : w.heap.size + 2 < w2.heap.size := (Array.getElem?_eq_some_iff.1 hbx).1)))
  have hball := (HB.out.drew.trans (hb1.mono (B' := w.heap.size) (by first | (simp; omega) | omega))).trans (hb2.mono (B' := w.heap.size) (by omega))
  have HE := Lib.hid (int_end (z := y * z) (s := s) (ao := ao2) (k := k2) (c := c2) hbx hball (by omega) (by rw [HS.out, sgn_mul HSA.out HSB.out]) (by have := hn2; rw [sgn_mul HSA.out HSB.out] at this; exact this.mono (L' := LL) (by omega)))
  clear hball hbx hb1 hb2 hn1 hn2 hf1
  go_wp2
  exact bodyPost_ret (v := .agg #[.bool s, .slice ao2 k2 c2]) (by simp [results, Tryz.results97, go_sem, HE.out.2.1, HE.out.2.2]) rfl HE.out.1
set_option maxRecDepth 20000 in
set_option maxHeartbeats 4000000 in
theorem plus_any {La Lb : Nat} {va vb : Value} {y z : Int} {w : World} (ha : IntV La w va y) (hb : IntV Lb w vb z) (h1 : La ≤ 536870912) (h2 : Lb ≤ 536870912) :
    Calls Tryz.prog 95 #[va, vb] w (RetInt (max La Lb + 1) w (y + z)) := by
  obtain ⟨LL, hLL⟩ : ∃ LL, LL = max La Lb + 1 := ⟨_, rfl⟩
  rw [← hLL]
  obtain ⟨sa, ua, rfl, hsa, hna⟩ := ha
  obtain ⟨sb, ub, rfl, hsb, hnb⟩ := hb
  obtain ⟨ao, ka, ca, rfl⟩ := hna.form
  obtain ⟨bo, kb, cb, rfl⟩ := hnb.form
  have hb0 : Below w.heap.size w (((w.alloc (.cells #[.bool sa, .slice ao ka ca] 30)).alloc (.cells #[.bool sb, .slice bo kb cb] 30)).alloc (.cells #[.bool false, .slice none 0 0] 30)) := (((Below.refl _ _).alloc (Nat.le_refl _) _).alloc (by simp) _).alloc (by simp; omega) _
  have HNA := Lib.hid (hna.below hb0)
  have HNB := Lib.hid (hnb.below hb0)
  have HB := Lib.hid hb0
  have HBX : Hid ((((w.alloc (.cells #[.bool sa, .slice ao ka ca] 30)).alloc (.cells #[.bool sb, .slice bo kb cb] 30)).alloc (.cells #[.bool false, .slice none 0 0] 30)).heap[w.heap.size + 2]? = some (.cells #[.bool false, .slice none 0 0] 30 (0, 0))) := heap_last _ _ _ (by simp)
  have HSA := Lib.hid hsa
  have HSB := Lib.hid hsb
  clear hna hnb hb0 hsa hsb
  by_cases hss : sa = sb
  · have t1 : (sa == sb) = true := by simpa using hss
    have HSS := Lib.hid hss
    clear hss
    go_enter Tryz.func95, Tryz.ntmps95
    go_wp2_with fail
    go_region_held3 (fun w' => w'.cell? ⟨w.heap.size, 0, none⟩ = some (.bool sa) ∧ w'.cell? ⟨w.heap.size, 1, none⟩ = some (.slice ao ka ca) ∧ w'.cell? ⟨w.heap.size + 1, 0, none⟩ = some (.bool sb) ∧ w'.cell? ⟨w.heap.size + 1, 1, none⟩ = some (.slice bo kb cb))
      (first | exact ⟨kd0, kd1, kd2, kd3⟩ | exact ⟨kc0, kc1, kc2, kc3⟩ | exact ⟨ke0, ke1, ke2, ke3⟩ | (refine ⟨?_, ?_, ?_, ?_⟩ <;> simp [go_sem, kd0, kd1, kd2, kd3]; done) | (refine ⟨?_, ?_, ?_, ?_⟩ <;> simp [go_sem]; done) | go_keep)
      ((first | (go_at_call 102; refine (sum_num (La := La) (Lb := Lb) (m := y.natAbs) (n := z.natAbs) (by exact HNA.out) (by exact HNB.out) (by omega) (by omega)).mono ?_; rintro e w1 ⟨hb1, v1, rfl, hn1, hf1⟩; have s1 := hb1.size; simp at s1; have kc0 := belowCell hb1 (v := .bool sa) (b := w.heap.size) (o := 0) (by simp [go_sem]); have kc1 := belowCell hb1 (v := .slice ao ka ca) (b := w.heap.size) (o := 1) (by simp [go_sem]); have kc2 := belowCell hb1 (v := .bool sb) (b := w.heap.size + 1) (o := 0) (by simp [go_sem]); have kc3 := belowCell hb1 (v := .slice bo kb cb) (b := w.heap.size + 1) (o := 1) (by simp [go_sem])) | (go_at_call 83; refine (signed_any sa hn1).mono ?_; rintro e w2 ⟨hb2, v2, rfl, s, sv, rfl, hs, hn2⟩; have HS := Lib.hid hs; clear hs; obtain ⟨ao2, k2, c2, rfl⟩ := hn2.form; have s2 := hb2.size; have kd0 := belowCell hb2 kc0; have kd1 := belowCell hb2 kc1; have kd2 := belowCell hb2 kc2; have kd3 := belowCell hb2 kc3; have hbx : w2.heap[w.heap.size + 2]? = some (.cells #[.bool false, .slice none 0 0] 30 (0, 0)) := (hb2.block _ (by omega)).trans ((hb1.block _ (by simp)).trans HBX.out); obtain ⟨c0, c1, f0, f1⟩ := two_cells hbx; have hsz : w.heap.size + 2 < w2.heap.size := (Array.getElem?_eq_some_iff.1 hbx).1)))
    have hball := (HB.out.drew.trans (hb1.mono (B' := w.heap.size) (by first | (simp; omega) | omega))).trans (hb2.mono (B' := w.heap.size) (by omega))
    have HE := Lib.hid (int_end (z := y + z) (s := s) (ao := ao2) (k := k2) (c := c2) hbx hball (by omega) (by rw [HS.out, sgn_same HSA.out HSB.out HSS.out]) (by have := hn2; rw [sgn_same HSA.out HSB.out HSS.out] at this; exact this.mono (L' := LL) (by omega)))
    clear hball hbx hb1 hb2 hn1 hn2 hf1
    go_wp2
    exact bodyPost_ret (v := .agg #[.bool s, .slice ao2 k2 c2]) (by simp [results, Tryz.results95, go_sem, HE.out.2.1, HE.out.2.2]) rfl HE.out.1
  · have t1 : (sa == sb) = false := by simpa using hss
    have HSS := Lib.hid hss
    clear hss
    by_cases hlt : (y.natAbs : Int) < z.natAbs
    · have HSG := Lib.hid (Dg.sg_lt hlt)
      go_enter Tryz.func95, Tryz.ntmps95
      go_wp2_with fail
      refine (compare_num (by exact HNA.out) (by exact HNB.out)).mono ?_
      rintro e w0 ⟨hb9, rfl⟩
      rw [HSG.out]
      have ke0 := belowCell hb9 (v := .bool sa) (b := w.heap.size) (o := 0) (by simp [go_sem])
      have ke1 := belowCell hb9 (v := .slice ao ka ca) (b := w.heap.size) (o := 1) (by simp [go_sem])
      have ke2 := belowCell hb9 (v := .bool sb) (b := w.heap.size + 1) (o := 0) (by simp [go_sem])
      have ke3 := belowCell hb9 (v := .slice bo kb cb) (b := w.heap.size + 1) (o := 1) (by simp [go_sem])
      have s0 := hb9.size
      simp at s0
      have HBX0 := Lib.hid ((hb9.block _ (by simp)).trans HBX.out)
      have HNA0 := Lib.hid (HNA.out.below hb9)
      have HNB0 := Lib.hid (HNB.out.below hb9)
      have HB0 := Lib.hid (HB.out.trans (hb9.mono (B' := w.heap.size) (by simp; omega)))
      clear hb9
      go_wp2_with fail
      go_region_held3 (fun w' => w'.cell? ⟨w.heap.size, 0, none⟩ = some (.bool sa) ∧ w'.cell? ⟨w.heap.size, 1, none⟩ = some (.slice ao ka ca) ∧ w'.cell? ⟨w.heap.size + 1, 0, none⟩ = some (.bool sb) ∧ w'.cell? ⟨w.heap.size + 1, 1, none⟩ = some (.slice bo kb cb))
        (first | exact ⟨kd0, kd1, kd2, kd3⟩ | exact ⟨kc0, kc1, kc2, kc3⟩ | exact ⟨ke0, ke1, ke2, ke3⟩ | (refine ⟨?_, ?_, ?_, ?_⟩ <;> simp [go_sem, kd0, kd1, kd2, kd3]; done) | (refine ⟨?_, ?_, ?_, ?_⟩ <;> simp [go_sem]; done) | go_keep)
        ((first | (go_at_call 103; refine (difference_num (La := Lb) (Lb := La) (m := z.natAbs) (n := y.natAbs) (by exact HNB0.out) (by exact HNA0.out) (by omega) (by omega)).mono ?_; rintro e w1 ⟨hb1, v1, rfl, hn1, hf1⟩; have s1 := hb1.size; simp at s1; have kc0 := belowCell hb1 (v := .bool sa) (b := w.heap.size) (o := 0) (by exact ke0); have kc1 := belowCell hb1 (v := .slice ao ka ca) (b := w.heap.size) (o := 1) (by exact ke1); have kc2 := belowCell hb1 (v := .bool sb) (b := w.heap.size + 1) (o := 0) (by exact ke2); have kc3 := belowCell hb1 (v := .slice bo kb cb) (b := w.heap.size + 1) (o := 1) (by exact ke3)) | (go_at_call 83; refine (signed_any sb hn1).mono ?_; rintro e w2 ⟨hb2, v2, rfl, s, sv, rfl, hs, hn2⟩; have HS := Lib.hid hs; clear hs; obtain ⟨ao2, k2, c2, rfl⟩ := hn2.form; have s2 := hb2.size; have kd0 := belowCell hb2 kc0; have kd1 := belowCell hb2 kc1; have kd2 := belowCell hb2 kc2; have kd3 := belowCell hb2 kc3; have hbx : w2.heap[w.heap.size + 2]? = some (.cells #[.bool false, .slice none 0 0] 30 (0, 0)) := (hb2.block _ (by omega)).trans ((hb1.block _ (by first | (simp; omega) | omega)).trans HBX0.out); obtain ⟨c0, c1, f0, f1⟩ := two_cells hbx; have hsz : w.heap.size + 2 < w2.heap.size := (Array.getElem?_eq_some_iff.1 hbx).1)))
      have hball := (HB0.out.drew.trans (hb1.mono (B' := w.heap.size) (by first | (simp; omega) | omega))).trans (hb2.mono (B' := w.heap.size) (by omega))
      have HE := Lib.hid (int_end (z := y + z) (s := s) (ao := ao2) (k := k2) (c := c2) hbx hball (by omega) (by rw [HS.out, sgn_less HSA.out HSB.out HSS.out]) (by have := hn2; rw [sgn_less HSA.out HSB.out HSS.out] at this; exact this.mono (L' := LL) (by omega)))
      clear hball hbx hb1 hb2 hn1 hn2 hf1
      go_wp2
      exact bodyPost_ret (v := .agg #[.bool s, .slice ao2 k2 c2]) (by simp [results, Tryz.results95, go_sem, HE.out.2.1, HE.out.2.2]) rfl HE.out.1
    · have HLT := Lib.hid hlt
      go_enter Tryz.func95, Tryz.ntmps95
      go_wp2_with fail
      refine (compare_num (by exact HNA.out) (by exact HNB.out)).mono ?_
      rintro e w0 ⟨hb9, rfl⟩
      have hsg : ¬ Dg.sg (y.natAbs : Int) z.natAbs < 0 := by
        unfold Dg.sg
        rw [if_neg (show ¬ (y.natAbs : Int) < z.natAbs by have := HLT.out; omega)]
        split <;> omega
      obtain ⟨g, hg⟩ : ∃ g, g = Dg.sg (y.natAbs : Int) z.natAbs := ⟨_, rfl⟩
      rw [← hg] at hsg ⊢
      clear hg
      have ke0 := belowCell hb9 (v := .bool sa) (b := w.heap.size) (o := 0) (by simp [go_sem])
      have ke1 := belowCell hb9 (v := .slice ao ka ca) (b := w.heap.size) (o := 1) (by simp [go_sem])
      have ke2 := belowCell hb9 (v := .bool sb) (b := w.heap.size + 1) (o := 0) (by simp [go_sem])
      have ke3 := belowCell hb9 (v := .slice bo kb cb) (b := w.heap.size + 1) (o := 1) (by simp [go_sem])
      have s0 := hb9.size
      simp at s0
      have HBX0 := Lib.hid ((hb9.block _ (by simp)).trans HBX.out)
      have HNA0 := Lib.hid (HNA.out.below hb9)
      have HNB0 := Lib.hid (HNB.out.below hb9)
      have HB0 := Lib.hid (HB.out.trans (hb9.mono (B' := w.heap.size) (by simp; omega)))
      clear hb9
      go_wp2_with fail
      go_region_held3 (fun w' => w'.cell? ⟨w.heap.size, 0, none⟩ = some (.bool sa) ∧ w'.cell? ⟨w.heap.size, 1, none⟩ = some (.slice ao ka ca) ∧ w'.cell? ⟨w.heap.size + 1, 0, none⟩ = some (.bool sb) ∧ w'.cell? ⟨w.heap.size + 1, 1, none⟩ = some (.slice bo kb cb))
        (first | exact ⟨kd0, kd1, kd2, kd3⟩ | exact ⟨kc0, kc1, kc2, kc3⟩ | exact ⟨ke0, ke1, ke2, ke3⟩ | (refine ⟨?_, ?_, ?_, ?_⟩ <;> simp [go_sem, kd0, kd1, kd2, kd3]; done) | (refine ⟨?_, ?_, ?_, ?_⟩ <;> simp [go_sem]; done) | go_keep)
        ((first | (go_at_call 103; refine (difference_num (La := La) (Lb := Lb) (m := y.natAbs) (n := z.natAbs) (by exact HNA0.out) (by exact HNB0.out) (by omega) (by omega)).mono ?_; rintro e w1 ⟨hb1, v1, rfl, hn1, hf1⟩; have s1 := hb1.size; simp at s1; have kc0 := belowCell hb1 (v := .bool sa) (b := w.heap.size) (o := 0) (by exact ke0); have kc1 := belowCell hb1 (v := .slice ao ka ca) (b := w.heap.size) (o := 1) (by exact ke1); have kc2 := belowCell hb1 (v := .bool sb) (b := w.heap.size + 1) (o := 0) (by exact ke2); have kc3 := belowCell hb1 (v := .slice bo kb cb) (b := w.heap.size + 1) (o := 1) (by exact ke3)) | (go_at_call 83; refine (signed_any sa hn1).mono ?_; rintro e w2 ⟨hb2, v2, rfl, s, sv, rfl, hs, hn2⟩; have HS := Lib.hid hs; clear hs; obtain ⟨ao2, k2, c2, rfl⟩ := hn2.form; have s2 := hb2.size; have kd0 := belowCell hb2 kc0; have kd1 := belowCell hb2 kc1; have kd2 := belowCell hb2 kc2; have kd3 := belowCell hb2 kc3; have hbx : w2.heap[w.heap.size + 2]? = some (.cells #[.bool false, .slice none 0 0] 30 (0, 0)) := (hb2.block _ (by omega)).trans ((hb1.block _ (by first | (simp; omega) | omega)).trans HBX0.out); obtain ⟨c0, c1, f0, f1⟩ := two_cells hbx; have hsz : w.heap.size + 2 < w2.heap.size := (Array.getElem?_eq_some_iff.1 hbx).1)))
      have hball := (HB0.out.drew.trans (hb1.mono (B' := w.heap.size) (by first | (simp; omega) | omega))).trans (hb2.mono (B' := w.heap.size) (by omega))
      have HE := Lib.hid (int_end (z := y + z) (s := s) (ao := ao2) (k := k2) (c := c2) hbx hball (by omega) (by rw [HS.out, sgn_more HSA.out HSB.out HSS.out]) (by have := hn2; rw [sgn_more HSA.out HSB.out HSS.out] at this; exact this.mono (L' := LL) (by omega)))
      clear hball hbx hb1 hb2 hn1 hn2 hf1
      go_wp2
      exact bodyPost_ret (v := .agg #[.bool s, .slice ao2 k2 c2]) (by simp [results, Tryz.results95, go_sem, HE.out.2.1, HE.out.2.2]) rfl HE.out.1
end Go.Proofs.YtblbheilddafbaaGreatDoor
