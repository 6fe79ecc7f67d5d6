/-
  Texts of the proof, merged by program: Zop.
-/
import Derived.Test.YtblbheilddafbaaGreatDoorZZcm
set_option linter.unusedVariables false
set_option linter.unusedSimpArgs false
namespace Go.Proofs.YtblbheilddafbaaGreatDoor
open Go Go.RowKit
set_option maxRecDepth 20000 in
set_option maxHeartbeats 1000000 in
theorem rnegz_any {L : Nat} {v : Value} {z : Int} {w : World} (h : ZV L w v z) :
    Calls Tryz.prog 29 #[v] w (RetZ L w (-z)) := by
  obtain ⟨sb, sv, rfl, hsb, hn⟩ := h
  obtain ⟨ao, k, cap, rfl, _, _⟩ := hn.form
  have HX0 : Kept (Bxs w [.cells #[.bool sb, .slice ao k cap] 25, .cells #[.bool false, .slice none 0 0] 25] ((w.alloc (.cells #[.bool sb, .slice ao k cap] 25)).alloc (.cells #[.bool false, .slice none 0 0] 25))) := ⟨((Bxs.start w).alloc (by simp) _).alloc (by simp) _⟩
  have HN := Kept.mk (hn.below HX0.out.1)
  have HSB := Kept.mk (sgn_not hsb)
  clear hn hsb
  have hnot : ∀ (x : Bool) (w : World), (Op.unary .not (.bool x)).run Tryz.prog w = .ok (.bool (!x)) w := fun _ _ => rfl
  go_enter Tryz.func29, Tryz.ntmps29
  go_wp2_with fail
  refine (rint_any (!sb) HN.out).mono ?_
  rintro e w2 ⟨hb2, v2, rfl, s2, u2, rfl, hs2, hn2⟩
  rw [HSB.out] at hs2 hn2
  obtain ⟨ao2, k2, c2, rfl, _, _⟩ := hn2.form
  have HX2 := Kept.mk (HX0.out.below hb2)
  have hbx := HX2.out.b1
  obtain ⟨c0, c1, f0, f1⟩ := two_cells hbx
  have hsz := HX2.out.l2
  have HE := Kept.mk (rint_end (L := L) (w := w) (s := s2) (ao := ao2) (k := k2) (c := c2) hbx HX2.out.1 (by omega) hs2 hn2)
  clear hb2 hs2 hn2 hbx
  go_wp2
  exact bodyPost_ret (v := .agg #[.bool s2, .slice ao2 k2 c2]) (by simp [results, Tryz.results29, go_sem, HE.out.2.1, HE.out.2.2]) rfl HE.out.1
theorem rsignz_any {L : Nat} {v : Value} {z : Int} {w : World} (h : ZV L w v z) :
    Calls Tryz.prog 26 #[v] w (RetV w (.int .i64 (Dg.sg z 0))) := by
  obtain ⟨sb, sv, rfl, hsb, hn⟩ := h
  obtain ⟨ao, k, cap, rfl, hk, _⟩ := hn.form
  have hb0 : Below w.heap.size w (w.alloc (.cells #[.bool sb, .slice ao k cap] 25)) := (Below.refl _ _).alloc (Nat.le_refl _) _
  rcases Int.lt_trichotomy z 0 with h | h | h
  · have e : sb = true := by rw [hsb]; simpa using h
    subst e
    have e2 : 0 < k := by
      apply Nat.pos_of_ne_zero
      intro hc
      have := hk.1 hc
      omega
    have HS := Lib.hid (Dg.sg_lt h)
    clear hsb hk
    go_enter Tryz.func26, Tryz.ntmps26
    go_wp2
    go_ret
    exact ⟨hb0, by rw [HS.out]; rfl⟩
  · subst h
    have e : sb = false := by rw [hsb]; rfl
    subst e
    have e2 : k = 0 := hk.2 rfl
    subst e2
    clear hsb hk
    go_enter Tryz.func26, Tryz.ntmps26
    go_wp2
    go_ret
    exact ⟨hb0, rfl⟩
  · have e : sb = false := by rw [hsb]; simp; omega
    subst e
    have e2 : 0 < k := by
      apply Nat.pos_of_ne_zero
      intro hc
      have := hk.1 hc
      omega
    have HS := Lib.hid (Dg.sg_gt h)
    clear hsb hk
    go_enter Tryz.func26, Tryz.ntmps26
    go_wp2
    go_ret
    exact ⟨hb0, by rw [HS.out]; rfl⟩
set_option maxRecDepth 20000 in
set_option maxHeartbeats 4000000 in
theorem rmulz_any {La Lb : Nat} {va vb : Value} {y z : Int} {w : World} (ha : ZV La w va y) (hb : ZV Lb w vb z) (h1 : La ≤ 536870912) (h2 : Lb ≤ 536870912) :
    Calls Tryz.prog 43 #[va, vb] w (RetZ (La + Lb) w (y * z)) := by
  obtain ⟨LL, hLL⟩ : ∃ LL, LL = La + Lb := ⟨_, rfl⟩
  rw [← hLL]
  obtain ⟨sa, ua, rfl, hsa, hna⟩ := ha
  obtain ⟨sb, ub, rfl, hsb, hnb⟩ := hb
  obtain ⟨ao, ka, ca, rfl, _, _⟩ := hna.form
  obtain ⟨bo, kb, cb, rfl, _, _⟩ := hnb.form
  have hb0 : Below w.heap.size w (((w.alloc (.cells #[.bool sa, .slice ao ka ca] 25)).alloc (.cells #[.bool sb, .slice bo kb cb] 25)).alloc (.cells #[.bool false, .slice none 0 0] 25)) := (((Below.refl _ _).alloc (Nat.le_refl _) _).alloc (by simp) _).alloc (by simp; omega) _
  have HNA := Lib.hid (hna.below hb0)
  have HNB := Lib.hid (hnb.below hb0)
  have HB := Lib.hid hb0
  have HBX : Hid ((((w.alloc (.cells #[.bool sa, .slice ao ka ca] 25)).alloc (.cells #[.bool sb, .slice bo kb cb] 25)).alloc (.cells #[.bool false, .slice none 0 0] 25)).heap[w.heap.size + 2]? = some (.cells #[.bool false, .slice none 0 0] 25 (0, 0))) := heap_last _ _ _ (by simp)
  have HSA := Lib.hid hsa
  have HSB := Lib.hid hsb
  clear hna hnb hb0 hsa hsb
  go_enter Tryz.func43, Tryz.ntmps43
  go_wp2_with fail
  go_region_held3 (fun w' => w'.cell? ⟨w.heap.size, 0, none⟩ = some (.bool sa) ∧ w'.cell? ⟨w.heap.size, 1, none⟩ = some (.slice ao ka ca) ∧ w'.cell? ⟨w.heap.size + 1, 0, none⟩ = some (.bool sb) ∧ w'.cell? ⟨w.heap.size + 1, 1, none⟩ = some (.slice bo kb cb))
    (first | exact ⟨kd0, kd1, kd2, kd3⟩ | exact ⟨kc0, kc1, kc2, kc3⟩ | exact ⟨ke0, ke1, ke2, ke3⟩ | (refine ⟨?_, ?_, ?_, ?_⟩ <;> simp [go_sem, kd0, kd1, kd2, kd3]; done) | (refine ⟨?_, ?_, ?_, ?_⟩ <;> simp [go_sem]; done) | go_keep)
    ((first | (go_at_call 100; refine (mulN_num (La := La) (Lb := Lb) (m := y.natAbs) (n := z.natAbs) (by exact HNA.out) (by exact HNB.out) (by omega) (by omega)).mono ?_; rintro e w1 ⟨hb1, v1, rfl, hn1⟩; have s1 := hb1.size; simp at s1; have kc0 := belowCell hb1 (v := .bool sa) (b := w.heap.size) (o := 0) (by simp [go_sem]); have kc1 := belowCell hb1 (v := .slice ao ka ca) (b := w.heap.size) (o := 1) (by simp [go_sem]); have kc2 := belowCell hb1 (v := .bool sb) (b := w.heap.size + 1) (o := 0) (by simp [go_sem]); have kc3 := belowCell hb1 (v := .slice bo kb cb) (b := w.heap.size + 1) (o := 1) (by simp [go_sem])) | (go_at_call 78; refine (rint_any (sa != sb) hn1).mono ?_; rintro e w2 ⟨hb2, v2, rfl, s, sv, rfl, hs, hn2⟩; have HS := Lib.hid hs; clear hs; obtain ⟨ao2, k2, c2, rfl, _, _⟩ := hn2.form; have s2 := hb2.size; have kd0 := belowCell hb2 kc0; have kd1 := belowCell hb2 kc1; have kd2 := belowCell hb2 kc2; have kd3 := belowCell hb2 kc3; have hbx : w2.heap[w.heap.size + 2]? = some (.cells #[.bool false, .slice none 0 0] 25 (0, 0)) := (hb2.block _ (by omega)).trans ((hb1.block _ (by simp)).trans HBX.out); obtain ⟨c0, c1, f0, f1⟩ := two_cells hbx; have hsz : w.heap.size + 2 < w2.heap.size := (Array.getElem?_eq_some_iff.1 hbx).1)))
  have hball := (HB.out.drew.trans (hb1.mono (B' := w.heap.size) (by first | (simp; omega) | omega))).trans (hb2.mono (B' := w.heap.size) (by omega))
  have HE := Lib.hid (rint_end (z := y * z) (s := s) (ao := ao2) (k := k2) (c := c2) hbx hball (by omega) (by rw [HS.out, sgn_mul HSA.out HSB.out]) (by have := hn2; rw [sgn_mul HSA.out HSB.out] at this; exact this.mono (L' := LL) (by omega)))
  clear hball hbx hb1 hb2 hn1 hn2
  go_wp2
  exact bodyPost_ret (v := .agg #[.bool s, .slice ao2 k2 c2]) (by simp [results, Tryz.results43, go_sem, HE.out.2.1, HE.out.2.2]) rfl HE.out.1
set_option maxRecDepth 20000 in
set_option maxHeartbeats 4000000 in
theorem raddz_any {La Lb : Nat} {va vb : Value} {y z : Int} {w : World} (ha : ZV La w va y) (hb : ZV Lb w vb z) (h1 : La ≤ 16000000000001) (h2 : Lb ≤ 16000000000001) :
    Calls Tryz.prog 41 #[va, vb] w (RetZ (max La Lb + 1) w (y + z)) := by
  obtain ⟨LL, hLL⟩ : ∃ LL, LL = max La Lb + 1 := ⟨_, rfl⟩
  rw [← hLL]
  obtain ⟨sa, ua, rfl, hsa, hna⟩ := ha
  obtain ⟨sb, ub, rfl, hsb, hnb⟩ := hb
  obtain ⟨ao, ka, ca, rfl, _, _⟩ := hna.form
  obtain ⟨bo, kb, cb, rfl, _, _⟩ := hnb.form
  have hb0 : Below w.heap.size w (((w.alloc (.cells #[.bool sa, .slice ao ka ca] 25)).alloc (.cells #[.bool sb, .slice bo kb cb] 25)).alloc (.cells #[.bool false, .slice none 0 0] 25)) := (((Below.refl _ _).alloc (Nat.le_refl _) _).alloc (by simp) _).alloc (by simp; omega) _
  have HNA := Lib.hid (hna.below hb0)
  have HNB := Lib.hid (hnb.below hb0)
  have HB := Lib.hid hb0
  have HBX : Hid ((((w.alloc (.cells #[.bool sa, .slice ao ka ca] 25)).alloc (.cells #[.bool sb, .slice bo kb cb] 25)).alloc (.cells #[.bool false, .slice none 0 0] 25)).heap[w.heap.size + 2]? = some (.cells #[.bool false, .slice none 0 0] 25 (0, 0))) := heap_last _ _ _ (by simp)
  have HSA := Lib.hid hsa
  have HSB := Lib.hid hsb
  clear hna hnb hb0 hsa hsb
  by_cases hss : sa = sb
  · have t1 : (sa == sb) = true := by simpa using hss
    have HSS := Lib.hid hss
    clear hss
    go_enter Tryz.func41, Tryz.ntmps41
    go_wp2_with fail
    go_region_held3 (fun w' => w'.cell? ⟨w.heap.size, 0, none⟩ = some (.bool sa) ∧ w'.cell? ⟨w.heap.size, 1, none⟩ = some (.slice ao ka ca) ∧ w'.cell? ⟨w.heap.size + 1, 0, none⟩ = some (.bool sb) ∧ w'.cell? ⟨w.heap.size + 1, 1, none⟩ = some (.slice bo kb cb))
      (first | exact ⟨kd0, kd1, kd2, kd3⟩ | exact ⟨kc0, kc1, kc2, kc3⟩ | exact ⟨ke0, ke1, ke2, ke3⟩ | (refine ⟨?_, ?_, ?_, ?_⟩ <;> simp [go_sem, kd0, kd1, kd2, kd3]; done) | (refine ⟨?_, ?_, ?_, ?_⟩ <;> simp [go_sem]; done) | go_keep)
      ((first | (go_at_call 98; refine (addN_num (La := La) (Lb := Lb) (m := y.natAbs) (n := z.natAbs) (by exact HNA.out) (by exact HNB.out) (by omega) (by omega)).mono ?_; rintro e w1 ⟨hb1, v1, rfl, hn1⟩; have s1 := hb1.size; simp at s1; have kc0 := belowCell hb1 (v := .bool sa) (b := w.heap.size) (o := 0) (by simp [go_sem]); have kc1 := belowCell hb1 (v := .slice ao ka ca) (b := w.heap.size) (o := 1) (by simp [go_sem]); have kc2 := belowCell hb1 (v := .bool sb) (b := w.heap.size + 1) (o := 0) (by simp [go_sem]); have kc3 := belowCell hb1 (v := .slice bo kb cb) (b := w.heap.size + 1) (o := 1) (by simp [go_sem])) | (go_at_call 78; refine (rint_any sa hn1).mono ?_; rintro e w2 ⟨hb2, v2, rfl, s, sv, rfl, hs, hn2⟩; have HS := Lib.hid hs; clear hs; obtain ⟨ao2, k2, c2, rfl, _, _⟩ := hn2.form; have s2 := hb2.size; have kd0 := belowCell hb2 kc0; have kd1 := belowCell hb2 kc1; have kd2 := belowCell hb2 kc2; have kd3 := belowCell hb2 kc3; have hbx : w2.heap[w.heap.size + 2]? = some (.cells #[.bool false, .slice none 0 0] 25 (0, 0)) := (hb2.block _ (by omega)).trans ((hb1.block _ (by simp)).trans HBX.out); obtain ⟨c0, c1, f0, f1⟩ := two_cells hbx; have hsz : w.heap.size + 2 < w2.heap.size := (Array.getElem?_eq_some_iff.1 hbx).1)))
    have hball := (HB.out.drew.trans (hb1.mono (B' := w.heap.size) (by first | (simp; omega) | omega))).trans (hb2.mono (B' := w.heap.size) (by omega))
    have HE := Lib.hid (rint_end (z := y + z) (s := s) (ao := ao2) (k := k2) (c := c2) hbx hball (by omega) (by rw [HS.out, sgn_same HSA.out HSB.out HSS.out]) (by have := hn2; rw [sgn_same HSA.out HSB.out HSS.out] at this; exact this.mono (L' := LL) (by omega)))
    clear hball hbx hb1 hb2 hn1 hn2
    go_wp2
    exact bodyPost_ret (v := .agg #[.bool s, .slice ao2 k2 c2]) (by simp [results, Tryz.results41, go_sem, HE.out.2.1, HE.out.2.2]) rfl HE.out.1
  · have t1 : (sa == sb) = false := by simpa using hss
    have HSS := Lib.hid hss
    clear hss
    by_cases hlt : (y.natAbs : Int) < z.natAbs
    · have HSG := Lib.hid (Dg.sg_lt hlt)
      go_enter Tryz.func41, Tryz.ntmps41
      go_wp2_with fail
      refine (cmpN_num (by exact HNA.out) (by exact HNB.out)).mono ?_
      rintro e w0 ⟨hb9, rfl⟩
      rw [HSG.out]
      have ke0 := belowCell hb9 (v := .bool sa) (b := w.heap.size) (o := 0) (by simp [go_sem])
      have ke1 := belowCell hb9 (v := .slice ao ka ca) (b := w.heap.size) (o := 1) (by simp [go_sem])
      have ke2 := belowCell hb9 (v := .bool sb) (b := w.heap.size + 1) (o := 0) (by simp [go_sem])
      have ke3 := belowCell hb9 (v := .slice bo kb cb) (b := w.heap.size + 1) (o := 1) (by simp [go_sem])
      have s0 := hb9.size
      simp at s0
      have HBX0 := Lib.hid ((hb9.block _ (by simp)).trans HBX.out)
      have HNA0 := Lib.hid (HNA.out.below hb9)
      have HNB0 := Lib.hid (HNB.out.below hb9)
      have HB0 := Lib.hid (HB.out.trans (hb9.mono (B' := w.heap.size) (by simp; omega)))
      clear hb9
      go_wp2_with fail
      go_region_held3 (fun w' => w'.cell? ⟨w.heap.size, 0, none⟩ = some (.bool sa) ∧ w'.cell? ⟨w.heap.size, 1, none⟩ = some (.slice ao ka ca) ∧ w'.cell? ⟨w.heap.size + 1, 0, none⟩ = some (.bool sb) ∧ w'.cell? ⟨w.heap.size + 1, 1, none⟩ = some (.slice bo kb cb))
        (first | exact ⟨kd0, kd1, kd2, kd3⟩ | exact ⟨kc0, kc1, kc2, kc3⟩ | exact ⟨ke0, ke1, ke2, ke3⟩ | (refine ⟨?_, ?_, ?_, ?_⟩ <;> simp [go_sem, kd0, kd1, kd2, kd3]; done) | (refine ⟨?_, ?_, ?_, ?_⟩ <;> simp [go_sem]; done) | go_keep)
        ((first | (go_at_call 99; refine (subN_num (La := Lb) (Lb := La) (m := z.natAbs) (n := y.natAbs) (by exact HNB0.out) (by exact HNA0.out) (by omega) (by omega)).mono ?_; rintro e w1 ⟨hb1, v1, rfl, hn1⟩; have s1 := hb1.size; simp at s1; have kc0 := belowCell hb1 (v := .bool sa) (b := w.heap.size) (o := 0) (by exact ke0); have kc1 := belowCell hb1 (v := .slice ao ka ca) (b := w.heap.size) (o := 1) (by exact ke1); have kc2 := belowCell hb1 (v := .bool sb) (b := w.heap.size + 1) (o := 0) (by exact ke2); have kc3 := belowCell hb1 (v := .slice bo kb cb) (b := w.heap.size + 1) (o := 1) (by exact ke3)) | (go_at_call 78; refine (rint_any sb hn1).mono ?_; rintro e w2 ⟨hb2, v2, rfl, s, sv, rfl, hs, hn2⟩; have HS := Lib.hid hs; clear hs; obtain ⟨ao2, k2, c2, rfl, _, _⟩ := hn2.form; have s2 := hb2.size; have kd0 := belowCell hb2 kc0; have kd1 := belowCell hb2 kc1; have kd2 := belowCell hb2 kc2; have kd3 := belowCell hb2 kc3; have hbx : w2.heap[w.heap.size + 2]? = some (.cells #[.bool false, .slice none 0 0] 25 (0, 0)) := (hb2.block _ (by omega)).trans ((hb1.block _ (by first | (simp; omega) | omega)).trans HBX0.out); obtain ⟨c0, c1, f0, f1⟩ := two_cells hbx; have hsz : w.heap.size + 2 < w2.heap.size := (Array.getElem?_eq_some_iff.1 hbx).1)))
      have hball := (HB0.out.drew.trans (hb1.mono (B' := w.heap.size) (by first | (simp; omega) | omega))).trans (hb2.mono (B' := w.heap.size) (by omega))
      have HE := Lib.hid (rint_end (z := y + z) (s := s) (ao := ao2) (k := k2) (c := c2) hbx hball (by omega) (by rw [HS.out, sgn_less HSA.out HSB.out HSS.out]) (by have := hn2; rw [sgn_less HSA.out HSB.out HSS.out] at this; exact this.mono (L' := LL) (by omega)))
      clear hball hbx hb1 hb2 hn1 hn2
      go_wp2
      exact bodyPost_ret (v := .agg #[.bool s, .slice ao2 k2 c2]) (by simp [results, Tryz.results41, go_sem, HE.out.2.1, HE.out.2.2]) rfl HE.out.1
    · have HLT := Lib.hid hlt
      go_enter Tryz.func41, Tryz.ntmps41
      go_wp2_with fail
      refine (cmpN_num (by exact HNA.out) (by exact HNB.out)).mono ?_
      rintro e w0 ⟨hb9, rfl⟩
      have hsg : ¬ Dg.sg (y.natAbs : Int) z.natAbs < 0 := by
        unfold Dg.sg
        rw [if_neg (show ¬ (y.natAbs : Int) < z.natAbs by have := HLT.out; omega)]
        split <;> omega
      obtain ⟨g, hg⟩ : ∃ g, g = Dg.sg (y.natAbs : Int) z.natAbs := ⟨_, rfl⟩
      rw [← hg] at hsg ⊢
      clear hg
      have ke0 := belowCell hb9 (v := .bool sa) (b := w.heap.size) (o := 0) (by simp [go_sem])
      have ke1 := belowCell hb9 (v := .slice ao ka ca) (b := w.heap.size) (o := 1) (by simp [go_sem])
      have ke2 := belowCell hb9 (v := .bool sb) (b := w.heap.size + 1) (o := 0) (by simp [go_sem])
      have ke3 := belowCell hb9 (v := .slice bo kb cb) (b := w.heap.size + 1) (o := 1) (by simp [go_sem])
      have s0 := hb9.size
      simp at s0
      have HBX0 := Lib.hid ((hb9.block _ (by simp)).trans HBX.out)
      have HNA0 := Lib.hid (HNA.out.below hb9)
      have HNB0 := Lib.hid (HNB.out.below hb9)
      have HB0 := Lib.hid (HB.out.trans (hb9.mono (B' := w.heap.size) (by simp; omega)))
      clear hb9
      go_wp2_with fail
      go_region_held3 (fun w' => w'.cell? ⟨w.heap.size, 0, none⟩ = some (.bool sa) ∧ w'.cell? ⟨w.heap.size, 1, none⟩ = some (.slice ao ka ca) ∧ w'.cell? ⟨w.heap.size + 1, 0, none⟩ = some (.bool sb) ∧ w'.cell? ⟨w.heap.size + 1, 1, none⟩ = some (.slice bo kb cb))
        (first | exact ⟨kd0, kd1, kd2, kd3⟩ | exact ⟨kc0, kc1, kc2, kc3⟩ | exact ⟨ke0, ke1, ke2, ke3⟩ | (refine ⟨?_, ?_, ?_, ?_⟩ <;> simp [go_sem, kd0, kd1, kd2, kd3]; done) | (refine ⟨?_, ?_, ?_, ?_⟩ <;> simp [go_sem]; done) | go_keep)
        ((first | (go_at_call 99; refine (subN_num (La := La) (Lb := Lb) (m := y.natAbs) (n := z.natAbs) (by exact HNA0.out) (by exact HNB0.out) (by omega) (by omega)).mono ?_; rintro e w1 ⟨hb1, v1, rfl, hn1⟩; have s1 := hb1.size; simp at s1; have kc0 := belowCell hb1 (v := .bool sa) (b := w.heap.size) (o := 0) (by exact ke0); have kc1 := belowCell hb1 (v := .slice ao ka ca) (b := w.heap.size) (o := 1) (by exact ke1); have kc2 := belowCell hb1 (v := .bool sb) (b := w.heap.size + 1) (o := 0) (by exact ke2); have kc3 := belowCell hb1 (v := .slice bo kb cb) (b := w.heap.size + 1) (o := 1) (by exact ke3)) | (go_at_call 78; refine (rint_any sa hn1).mono ?_; rintro e w2 ⟨hb2, v2, rfl, s, sv, rfl, hs, hn2⟩; have HS := Lib.hid hs; clear hs; obtain ⟨ao2, k2, c2, rfl, _, _⟩ := hn2.form; have s2 := hb2.size; have kd0 := belowCell hb2 kc0; have kd1 := belowCell hb2 kc1; have kd2 := belowCell hb2 kc2; have kd3 := belowCell hb2 kc3; have hbx : w2.heap[w.heap.size + 2]? = some (.cells #[.bool false, .slice none 0 0] 25 (0, 0)) := (hb2.block _ (by omega)).trans ((hb1.block _ (by first | (simp; omega) | omega)).trans HBX0.out); obtain ⟨c0, c1, f0, f1⟩ := two_cells hbx; have hsz : w.heap.size + 2 < w2.heap.size := (Array.getElem?_eq_some_iff.1 hbx).1)))
      have hball := (HB0.out.drew.trans (hb1.mono (B' := w.heap.size) (by first | (simp; omega) | omega))).trans (hb2.mono (B' := w.heap.size) (by omega))
      have HE := Lib.hid (rint_end (z := y + z) (s := s) (ao := ao2) (k := k2) (c := c2) hbx hball (by omega) (by rw [HS.out, sgn_more HSA.out HSB.out HSS.out]) (by have := hn2; rw [sgn_more HSA.out HSB.out HSS.out] at this; exact this.mono (L' := LL) (by omega)))
      clear hball hbx hb1 hb2 hn1 hn2
      go_wp2
      exact bodyPost_ret (v := .agg #[.bool s, .slice ao2 k2 c2]) (by simp [results, Tryz.results41, go_sem, HE.out.2.1, HE.out.2.2]) rfl HE.out.1
set_option maxRecDepth 20000 in
set_option maxHeartbeats 4000000 in
theorem rsubz_any {La Lb : Nat} {va vb : Value} {y z : Int} {w : World} (ha : ZV La w va y) (hb : ZV Lb w vb z) (h1 : La ≤ 16000000000000) (h2 : Lb ≤ 16000000000000) :
    Calls Tryz.prog 42 #[va, vb] w (RetZ (max La Lb + 1) w (y - z)) := by
  have ha' := ha
  have hb' := hb
  obtain ⟨sa, ua, rfl, hsa, hna⟩ := ha
  obtain ⟨sb, ub, rfl, hsb, hnb⟩ := hb
  obtain ⟨ao, ka, ca, rfl, _, _⟩ := hna.form
  obtain ⟨bo, kb, cb, rfl, _, _⟩ := hnb.form
  have hb0 : Below w.heap.size w (((w.alloc (.cells #[.bool sa, .slice ao ka ca] 25)).alloc (.cells #[.bool sb, .slice bo kb cb] 25)).alloc (.cells #[.bool false, .slice none 0 0] 25)) := (((Below.refl _ _).alloc (Nat.le_refl _) _).alloc (by simp) _).alloc (by simp; omega) _
  have HA := Lib.hid (ha'.below hb0)
  have HBV := Lib.hid (hb'.below hb0)
  have HB := Lib.hid hb0
  have HBX : Hid ((((w.alloc (.cells #[.bool sa, .slice ao ka ca] 25)).alloc (.cells #[.bool sb, .slice bo kb cb] 25)).alloc (.cells #[.bool false, .slice none 0 0] 25)).heap[w.heap.size + 2]? = some (.cells #[.bool false, .slice none 0 0] 25 (0, 0))) := heap_last _ _ _ (by simp)
  clear hna hnb hb0 hsa hsb ha' hb'
  go_enter Tryz.func42, Tryz.ntmps42
  go_wp2_with fail
  go_region_held3 (fun w' => w'.cell? ⟨w.heap.size, 0, none⟩ = some (.bool sa) ∧ w'.cell? ⟨w.heap.size, 1, none⟩ = some (.slice ao ka ca) ∧ w'.cell? ⟨w.heap.size + 1, 0, none⟩ = some (.bool sb) ∧ w'.cell? ⟨w.heap.size + 1, 1, none⟩ = some (.slice bo kb cb))
    (first | exact ⟨kd0, kd1, kd2, kd3⟩ | exact ⟨kc0, kc1, kc2, kc3⟩ | (refine ⟨?_, ?_, ?_, ?_⟩ <;> simp [go_sem, kd0, kd1, kd2, kd3]; done) | (refine ⟨?_, ?_, ?_, ?_⟩ <;> simp [go_sem]; done) | go_keep)
    ((first
      | (go_at_call 29; refine (rnegz_any (L := Lb) (z := z) (by exact HBV.out)).mono ?_; rintro e w1 ⟨hb1, v1, rfl, hI1⟩; have s1 := hb1.size; simp at s1; have kc0 := belowCell hb1 (v := .bool sa) (b := w.heap.size) (o := 0) (by simp [go_sem]); have kc1 := belowCell hb1 (v := .slice ao ka ca) (b := w.heap.size) (o := 1) (by simp [go_sem]); have kc2 := belowCell hb1 (v := .bool sb) (b := w.heap.size + 1) (o := 0) (by simp [go_sem]); have kc3 := belowCell hb1 (v := .slice bo kb cb) (b := w.heap.size + 1) (o := 1) (by simp [go_sem]); have HA1 : Hid (ZV La w1 (.agg #[.bool sa, .slice ao ka ca]) y) := ZV.below (by exact HA.out) hb1)
      | (go_at_call 41; refine (raddz_any (y := y) (z := -z) HA1.out hI1 (by omega) (by omega)).mono ?_; rintro e w2 ⟨hb2, v2, rfl, s, sv, rfl, hs, hn2⟩; have HS := Lib.hid hs; clear hs; obtain ⟨ao2, k2, c2, rfl, _, _⟩ := hn2.form; have s2 := hb2.size; have kd0 := belowCell hb2 kc0; have kd1 := belowCell hb2 kc1; have kd2 := belowCell hb2 kc2; have kd3 := belowCell hb2 kc3; have hbx : w2.heap[w.heap.size + 2]? = some (.cells #[.bool false, .slice none 0 0] 25 (0, 0)) := (hb2.block _ (by omega)).trans ((hb1.block _ (by simp)).trans HBX.out); obtain ⟨c0, c1, f0, f1⟩ := two_cells hbx; have hsz : w.heap.size + 2 < w2.heap.size := (Array.getElem?_eq_some_iff.1 hbx).1)))
  have hball := (HB.out.drew.trans (hb1.mono (B' := w.heap.size) (by simp; omega))).trans (hb2.mono (B' := w.heap.size) (by omega))
  have HE := Lib.hid (rint_end (L := max La Lb + 1) (z := y - z) (s := s) (ao := ao2) (k := k2) (c := c2) hbx hball (by omega) (by rw [HS.out, Int.sub_eq_add_neg]) (by rw [Int.sub_eq_add_neg]; exact hn2))
  clear hball hbx hb1 hb2 hn2
  go_wp2
  exact bodyPost_ret (v := .agg #[.bool s, .slice ao2 k2 c2]) (by simp [results, Tryz.results42, go_sem, HE.out.2.1, HE.out.2.2]) rfl HE.out.1
set_option maxRecDepth 20000 in
set_option maxHeartbeats 1000000 in
theorem rcmpz_any {La Lb : Nat} {va vb : Value} {y z : Int} {w : World} (ha : ZV La w va y) (hb : ZV Lb w vb z) (h1 : La ≤ 16000000000000) (h2 : Lb ≤ 16000000000000) :
    Calls Tryz.prog 35 #[va, vb] w (RetV w (.int .i64 (Dg.sg y z))) := by
  have HA := Kept.mk ha
  have HB := Kept.mk hb
  obtain ⟨sa, ua, rfl, hsa, hna⟩ := ha
  obtain ⟨sb, ub, rfl, hsb, hnb⟩ := hb
  obtain ⟨ao, ka, ca, rfl, _, _⟩ := hna.form
  obtain ⟨bo, kb, cb, rfl, _, _⟩ := hnb.form
  have HX0 : Kept (Bxs w [.cells #[.bool sa, .slice ao ka ca] 25, .cells #[.bool sb, .slice bo kb cb] 25] ((w.alloc (.cells #[.bool sa, .slice ao ka ca] 25)).alloc (.cells #[.bool sb, .slice bo kb cb] 25))) := ⟨((Bxs.start w).alloc (by simp) _).alloc (by simp) _⟩
  have HSG : Kept (Dg.sg (y - z) 0 = Dg.sg y z) := ⟨sg_mono (by omega) (by omega)⟩
  clear hsa hna hsb hnb
  go_enter Tryz.func35, Tryz.ntmps35
  go_wp2_with fail
  refine (rsubz_any (HA.out.below HX0.out.1) (HB.out.below HX0.out.1) h1 h2).mono ?_
  rintro e w1 ⟨hb1, v1, rfl, hZ1⟩
  have HX1 := Kept.mk (HX0.out.below hb1)
  have HZ1 := Kept.mk hZ1
  clear hb1 hZ1
  go_wp2_with fail
  refine (rsignz_any HZ1.out).mono ?_
  rintro e w2 ⟨hb2, rfl⟩
  have HX2 := Kept.mk (HX1.out.below hb2)
  clear hb2
  go_wp2
  go_ret
  exact ⟨HX2.out.1, by rw [← HSG.out]; rfl⟩
end Go.Proofs.YtblbheilddafbaaGreatDoor
