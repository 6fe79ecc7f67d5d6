/-
  Texts of the proof, merged by program: TZcm TZop TRpm.
-/
import Derived.Test.YtfhhnfpapgfnmaaGreatV20
set_option linter.unusedVariables false
set_option linter.unusedSimpArgs false
namespace Go.Proofs.YtfhhnfpapgfnmaaGreat
open Go Go.RowKit
set_option maxRecDepth 20000 in
set_option maxHeartbeats 1000000 in
theorem cmpN_eqlen {va vb : Value} {xs ys : List Int} {w : World} (ha : Sl .i64 w va xs) (hb : Sl .i64 w vb ys) (hwa : Dg.Wf BN xs) (hwb : Dg.Wf BN ys) (hl : ys.length = xs.length) :
    Calls Tryz.prog 29 #[va, vb] w (RetV w (.int .i64 (Dg.sg (Dg.val BN xs) (Dg.val BN ys)))) := by
  obtain ⟨ao, cap, rfl, hcap, hmax, hc⟩ := ha
  obtain ⟨bo, bcap, rfl, hbcap, hbmax, hbc⟩ := hb
  unfold maxLen at hmax hbmax
  rw [hl] at hbcap ⊢
  have HL := TKept.mk hl
  simp only [hl] at hbc
  have HC := TKept.mk hc
  have HBC := TKept.mk hbc
  have WX := TKept.mk hwa
  have WY := TKept.mk hwb
  clear hl hc hbc hwa hwb
  go_enter Tryz.func29, Tryz.ntmps29
  go_wp2
  go_loopw [5] (fun i wr => ∃ (k : Nat) (j : Int), k ≤ xs.length ∧ Hid (j + 1 = k) ∧ i = .int .i64 j ∧ TKept (xs.drop k = ys.drop k) ∧ TKept (Below w.heap.size w wr)) (fun i _ => (intOf i + 1).toNat)
  case atStart => exact ⟨xs.length, _, Nat.le_refl _, by show _ - (1 : Int) + 1 = _; omega, rfl, ⟨by rw [List.drop_length, ← HL.out, List.drop_length]⟩, ⟨Below.refl _ _⟩⟩
  case round =>
    obtain ⟨k, j, hk, hj, rfl, hd, hbl⟩ := hrel
    by_cases h0 : 0 < k
    · obtain ⟨k, rfl⟩ : ∃ j, k = j+1 := ⟨k - 1, by omega⟩
      obtain rfl : j = (k : Int) := by have := hj.out; omega
      clear hj
      obtain ⟨b, o, rfl, hbs, hcell⟩ := HC.out k (by omega)
      obtain ⟨b', o', rfl, hbs', hcell'⟩ := HBC.out k (by omega)
      obtain ⟨x, hx⟩ : ∃ x, x = xs[k]?.getD 0 := ⟨_, rfl⟩
      obtain ⟨y, hy⟩ : ∃ y, y = ys[k]?.getD 0 := ⟨_, rfl⟩
      rw [← hx] at hcell
      rw [← hy] at hcell'
      have HX := TKept.mk hx
      have HY := TKept.mk hy
      clear hx hy
      have hcl := (hbl.out.cell (p := ⟨b, o + k, none⟩) hbs).trans hcell
      have hcl' := (hbl.out.cell (p := ⟨b', o' + k, none⟩) hbs').trans hcell'
      clear hcell hcell'
      have hki : k < xs.length := by omega
      rcases Int.lt_trichotomy x y with h | h | h
      · have hv := TKept.mk (Dg.sg_lt (Dg.val_lt_at (by decide) WX.out WY.out HL.out.symm (k := k) (by omega) hd.out (by rw [← HX.out, ← HY.out]; exact h)))
        go_wp2
        go_region
        go_wp2
        go_ret
        exact ⟨hbl.out.drew, by rw [hv.out]; rfl⟩
      · subst h
        go_wp2
        go_region
        go_wp2
        go_region
        go_wp2
        go_roundw
        case rel => exact ⟨k, (k : Int) - 1, by omega, by show _ - (1 : Int) + 1 = _; omega, rfl, ⟨Dg.drop_eq_at HL.out.symm hd.out (by rw [← HX.out, ← HY.out])⟩, ⟨hbl.out.drew.drew⟩⟩
        case measure => simp [intOf] <;> omega
      · have hv := TKept.mk (Dg.sg_gt (Dg.val_lt_at (by decide) WY.out WX.out HL.out (k := k) (by have := HL.out; omega) hd.out.symm (by rw [← HX.out, ← HY.out]; exact h)))
        go_wp2
        go_region
        go_wp2
        go_region
        go_wp2
        go_ret
        exact ⟨hbl.out.drew.drew, by rw [hv.out]; rfl⟩
    · obtain rfl : k = 0 := by omega
      obtain rfl : j = -1 := by have := hj.out; omega
      have he : xs = ys := by simpa using hd.out
      have hs : Dg.sg (Dg.val BN xs) (Dg.val BN ys) = 0 := by rw [he]; exact Dg.sg_eq _
      have HS := TKept.mk hs
      clear hj hd he hs
      go_wp2
      go_ret
      exact ⟨hbl.out, by rw [HS.out]; rfl⟩
set_option maxHeartbeats 1000000 in
theorem cmpN_any {va vb : Value} {xs ys : List Int} {w : World} (ha : Sl .i64 w va xs) (hb : Sl .i64 w vb ys) (hwa : Dg.Wf BN xs) (hwb : Dg.Wf BN ys) (hna : Dg.Nz xs) (hnb : Dg.Nz ys) :
    Calls Tryz.prog 29 #[va, vb] w (RetV w (.int .i64 (Dg.sg (Dg.val BN xs) (Dg.val BN ys)))) := by
  rcases Nat.lt_trichotomy xs.length ys.length with h | h | h
  · have hv : Dg.sg (Dg.val BN xs) (Dg.val BN ys) = -1 := Dg.sg_lt (Dg.val_lt_of_len (by decide) hwa hwb hnb h)
    obtain ⟨ao, cap, rfl, hcap, hmax, hc⟩ := ha
    obtain ⟨bo, bcap, rfl, hbcap, hbmax, hbc⟩ := hb
    have HV := TKept.mk hv
    have hne : ((xs.length : Int) == (ys.length : Int)) = false := by simp; omega
    clear hv
    go_enter Tryz.func29, Tryz.ntmps29
    go_wp2
    go_ret
    exact ⟨Below.refl _ _, by rw [HV.out]; rfl⟩
  · exact cmpN_eqlen ha hb hwa hwb h.symm
  · have hv : Dg.sg (Dg.val BN xs) (Dg.val BN ys) = 1 := Dg.sg_gt (Dg.val_lt_of_len (by decide) hwb hwa hna h)
    obtain ⟨ao, cap, rfl, hcap, hmax, hc⟩ := ha
    obtain ⟨bo, bcap, rfl, hbcap, hbmax, hbc⟩ := hb
    have HV := TKept.mk hv
    have hne : ((xs.length : Int) == (ys.length : Int)) = false := by simp; omega
    clear hv
    go_enter Tryz.func29, Tryz.ntmps29
    go_wp2
    go_ret
    exact ⟨Below.refl _ _, by rw [HV.out]; rfl⟩
theorem addN_num {La Lb : Nat} {va vb : Value} {m n : Int} {w : World} (ha : NumR La w va m) (hb : NumR Lb w vb n) (h1 : La ≤ 17000000000000) (h2 : Lb ≤ 17000000000000) :
    Calls Tryz.prog 28 #[va, vb] w (TRetR (max La Lb + 1) w (m + n)) := by
  obtain ⟨xs, a1, a2, a3, rfl, a5⟩ := ha
  obtain ⟨ys, b1, b2, b3, rfl, b5⟩ := hb
  exact (addN_any va vb xs ys w a1 b1 a2 b2 a3 b3 (by omega) (by omega)).mono fun e w' ⟨hb, v', he, hn⟩ => ⟨hb, v', he, hn.mono (by omega)⟩
theorem subN_num {La Lb : Nat} {va vb : Value} {m n : Int} {w : World} (ha : NumR La w va m) (hb : NumR Lb w vb n) (h1 : La ≤ 17000000000000) (hle : n ≤ m) :
    Calls Tryz.prog 30 #[va, vb] w (TRetR La w (m - n)) := by
  obtain ⟨xs, a1, a2, a3, rfl, a5⟩ := ha
  obtain ⟨ys, b1, b2, b3, rfl, b5⟩ := hb
  have hl : ys.length ≤ xs.length := by
    apply Classical.byContradiction
    intro hc
    have := Dg.val_lt_of_len (show (1 : Int) < BN by decide) a2 b2 b3 (by omega)
    omega
  exact (subN_any va vb xs ys w a1 b1 a2 b2 hl hle (by omega)).mono fun e w' ⟨hb, v', he, hn⟩ => ⟨hb, v', he, hn.mono (by omega)⟩
theorem mulN_num {La Lb : Nat} {va vb : Value} {m n : Int} {w : World} (ha : NumR La w va m) (hb : NumR Lb w vb n) (h1 : La ≤ 1099511627776) (h2 : Lb ≤ 1099511627776) :
    Calls Tryz.prog 31 #[va, vb] w (TRetR (La + Lb) w (m * n)) := by
  obtain ⟨xs, a1, a2, a3, rfl, a5⟩ := ha
  obtain ⟨ys, b1, b2, b3, rfl, b5⟩ := hb
  exact (mulN_any va vb xs ys w a1 b1 a2 b2 (by omega) (by omega)).mono fun e w' ⟨hb, v', he, hn⟩ => ⟨hb, v', he, hn.mono (by omega)⟩
theorem cmpN_num {La Lb : Nat} {va vb : Value} {m n : Int} {w : World} (ha : NumR La w va m) (hb : NumR Lb w vb n) :
    Calls Tryz.prog 29 #[va, vb] w (RetV w (.int .i64 (Dg.sg m n))) := by
  obtain ⟨xs, a1, a2, a3, rfl, a5⟩ := ha
  obtain ⟨ys, b1, b2, b3, rfl, b5⟩ := hb
  exact cmpN_any a1 b1 a2 b2 a3 b3
end Go.Proofs.YtfhhnfpapgfnmaaGreat

set_option linter.unusedVariables false
set_option linter.unusedSimpArgs false
namespace Go.Proofs.YtfhhnfpapgfnmaaGreat
open Go Go.RowKit
set_option maxRecDepth 20000 in
set_option maxHeartbeats 1000000 in
theorem rnegz_any {L : Nat} {v : Value} {z : Int} {w : World} (h : ZV L w v z) :
    Calls Tryz.prog 49 #[v] w (RetZ L w (-z)) := by
  obtain ⟨sb, sv, rfl, hsb, hn⟩ := h
  obtain ⟨ao, k, cap, rfl, _, _⟩ := hn.form
  have HX0 : TKept (TBxs w [.cells #[.bool sb, .slice ao k cap] 38, .cells #[.bool false, .slice none 0 0] 38] ((w.alloc (.cells #[.bool sb, .slice ao k cap] 38)).alloc (.cells #[.bool false, .slice none 0 0] 38))) := ⟨((TBxs.start w).alloc (by simp) _).alloc (by simp) _⟩
  have HN := TKept.mk (hn.below HX0.out.1)
  have HSB := TKept.mk (sgn_not hsb)
  clear hn hsb
  have hnot : ∀ (x : Bool) (w : World), (Op.unary .not (.bool x)).run Tryz.prog w = .ok (.bool (!x)) w := fun _ _ => rfl
  go_enter Tryz.func49, Tryz.ntmps49
  go_wp2_with fail
  refine (rint_any (!sb) HN.out).mono ?_
  rintro e w2 ⟨hb2, v2, rfl, s2, u2, rfl, hs2, hn2⟩
  rw [HSB.out] at hs2 hn2
  obtain ⟨ao2, k2, c2, rfl, _, _⟩ := hn2.form
  have HX2 := TKept.mk (HX0.out.below hb2)
  have hbx := HX2.out.b1
  obtain ⟨c0, c1, f0, f1⟩ := ttwo_cells hbx
  have hsz := HX2.out.l2
  have HE := TKept.mk (rint_end (L := L) (w := w) (s := s2) (ao := ao2) (k := k2) (c := c2) hbx HX2.out.1 (by omega) hs2 hn2)
  clear hb2 hs2 hn2 hbx
  go_wp2
  exact bodyPost_ret (v := .agg #[.bool s2, .slice ao2 k2 c2]) (by simp [results, Tryz.results49, go_sem, HE.out.2.1, HE.out.2.2]) rfl HE.out.1
theorem rsignz_any {L : Nat} {v : Value} {z : Int} {w : World} (h : ZV L w v z) :
    Calls Tryz.prog 32 #[v] w (RetV w (.int .i64 (Dg.sg z 0))) := by
  obtain ⟨sb, sv, rfl, hsb, hn⟩ := h
  obtain ⟨ao, k, cap, rfl, hk, _⟩ := hn.form
  have hb0 : Below w.heap.size w (w.alloc (.cells #[.bool sb, .slice ao k cap] 38)) := (Below.refl _ _).alloc (Nat.le_refl _) _
  rcases Int.lt_trichotomy z 0 with h | h | h
  · have e : sb = true := by rw [hsb]; simpa using h
    subst e
    have e2 : 0 < k := by
      apply Nat.pos_of_ne_zero
      intro hc
      have := hk.1 hc
      omega
    have HS := Lib.hid (Dg.sg_lt h)
    clear hsb hk
    go_enter Tryz.func32, Tryz.ntmps32
    go_wp2
    go_ret
    exact ⟨hb0, by rw [HS.out]; rfl⟩
  · subst h
    have e : sb = false := by rw [hsb]; rfl
    subst e
    have e2 : k = 0 := hk.2 rfl
    subst e2
    clear hsb hk
    go_enter Tryz.func32, Tryz.ntmps32
    go_wp2
    go_ret
    exact ⟨hb0, rfl⟩
  · have e : sb = false := by rw [hsb]; simp; omega
    subst e
    have e2 : 0 < k := by
      apply Nat.pos_of_ne_zero
      intro hc
      have := hk.1 hc
      omega
    have HS := Lib.hid (Dg.sg_gt h)
    clear hsb hk
    go_enter Tryz.func32, Tryz.ntmps32
    go_wp2
    go_ret
    exact ⟨hb0, by rw [HS.out]; rfl⟩
set_option maxRecDepth 20000 in
set_option maxHeartbeats 4000000 in
theorem rmulz_any {La Lb : Nat} {va vb : Value} {y z : Int} {w : World} (ha : ZV La w va y) (hb : ZV Lb w vb z) (h1 : La ≤ 536870912) (h2 : Lb ≤ 536870912) :
    Calls Tryz.prog 13 #[va, vb] w (RetZ (La + Lb) w (y * z)) := by
  obtain ⟨LL, hLL⟩ : ∃ LL, LL = La + Lb := ⟨_, rfl⟩
  rw [← hLL]
  obtain ⟨sa, ua, rfl, hsa, hna⟩ := ha
  obtain ⟨sb, ub, rfl, hsb, hnb⟩ := hb
  obtain ⟨ao, ka, ca, rfl, _, _⟩ := hna.form
  obtain ⟨bo, kb, cb, rfl, _, _⟩ := hnb.form
  have hb0 : Below w.heap.size w (((w.alloc (.cells #[.bool sa, .slice ao ka ca] 38)).alloc (.cells #[.bool sb, .slice bo kb cb] 38)).alloc (.cells #[.bool false, .slice none 0 0] 38)) := (((Below.refl _ _).alloc (Nat.le_refl _) _).alloc (by simp) _).alloc (by simp; omega) _
  have HNA := Lib.hid (hna.below hb0)
  have HNB := Lib.hid (hnb.below hb0)
  have HB := Lib.hid hb0
  have HBX : Hid ((((w.alloc (.cells #[.bool sa, .slice ao ka ca] 38)).alloc (.cells #[.bool sb, .slice bo kb cb] 38)).alloc (.cells #[.bool false, .slice none 0 0] 38)).heap[w.heap.size + 2]? = some (.cells #[.bool false, .slice none 0 0] 38 (0, 0))) := theap_last _ _ _ (by simp)
  have HSA := Lib.hid hsa
  have HSB := Lib.hid hsb
  clear hna hnb hb0 hsa hsb
  go_enter Tryz.func13, Tryz.ntmps13
  go_wp2_with fail
  go_region_held3 (fun w' => w'.cell? ⟨w.heap.size, 0, none⟩ = some (.bool sa) ∧ w'.cell? ⟨w.heap.size, 1, none⟩ = some (.slice ao ka ca) ∧ w'.cell? ⟨w.heap.size + 1, 0, none⟩ = some (.bool sb) ∧ w'.cell? ⟨w.heap.size + 1, 1, none⟩ = some (.slice bo kb cb))
    (first | exact ⟨kd0, kd1, kd2, kd3⟩ | exact ⟨kc0, kc1, kc2, kc3⟩ | exact ⟨ke0, ke1, ke2, ke3⟩ | (refine ⟨?_, ?_, ?_, ?_⟩ <;> simp [go_sem, kd0, kd1, kd2, kd3]; done) | (refine ⟨?_, ?_, ?_, ?_⟩ <;> simp [go_sem]; done) | go_keep)
    ((first | (go_at_call 31; refine (mulN_num (La := La) (Lb := Lb) (m := y.natAbs) (n := z.natAbs) (by exact HNA.out) (by exact HNB.out) (by omega) (by omega)).mono ?_; rintro e w1 ⟨hb1, v1, rfl, hn1⟩; have s1 := hb1.size; simp at s1; have kc0 := tbelowCell hb1 (v := .bool sa) (b := w.heap.size) (o := 0) (by simp [go_sem]); have kc1 := tbelowCell hb1 (v := .slice ao ka ca) (b := w.heap.size) (o := 1) (by simp [go_sem]); have kc2 := tbelowCell hb1 (v := .bool sb) (b := w.heap.size + 1) (o := 0) (by simp [go_sem]); have kc3 := tbelowCell hb1 (v := .slice bo kb cb) (b := w.heap.size + 1) (o := 1) (by simp [go_sem])) | (go_at_call 26; refine (rint_any (sa != sb) hn1).mono ?_; rintro e w2 ⟨hb2, v2, rfl, s, sv, rfl, hs, hn2⟩; have HS := Lib.hid hs; clear hs; obtain ⟨ao2, k2, c2, rfl, _, _⟩ := hn2.form; have s2 := hb2.size; have kd0 := tbelowCell hb2 kc0; have kd1 := tbelowCell hb2 kc1; have kd2 := tbelowCell hb2 kc2; have kd3 := tbelowCell hb2 kc3; have hbx : w2.heap[w.heap.size + 2]? = some (.cells #[.bool false, .slice none 0 0] 38 (0, 0)) := (hb2.block _ (by omega)).trans ((hb1.block _ (by simp)).trans HBX.out); obtain ⟨c0, c1, f0, f1⟩ := ttwo_cells hbx; have hsz : w.heap.size + 2 < w2.heap.size := (Array.getElem?_eq_some_iff.1 hbx).1)))
  have hball := (HB.out.drew.trans (hb1.mono (B' := w.heap.size) (by first | (simp; omega) | omega))).trans (hb2.mono (B' := w.heap.size) (by omega))
  have HE := Lib.hid (rint_end (z := y * z) (s := s) (ao := ao2) (k := k2) (c := c2) hbx hball (by omega) (by rw [HS.out, sgn_mul HSA.out HSB.out]) (by have := hn2; rw [sgn_mul HSA.out HSB.out] at this; exact this.mono (L' := LL) (by omega)))
  clear hball hbx hb1 hb2 hn1 hn2
  go_wp2
  exact bodyPost_ret (v := .agg #[.bool s, .slice ao2 k2 c2]) (by simp [results, Tryz.results13, go_sem, HE.out.2.1, HE.out.2.2]) rfl HE.out.1
set_option maxRecDepth 20000 in
set_option maxHeartbeats 4000000 in
theorem raddz_any {La Lb : Nat} {va vb : Value} {y z : Int} {w : World} (ha : ZV La w va y) (hb : ZV Lb w vb z) (h1 : La ≤ 16000000000001) (h2 : Lb ≤ 16000000000001) :
    Calls Tryz.prog 12 #[va, vb] w (RetZ (max La Lb + 1) w (y + z)) := by
  obtain ⟨LL, hLL⟩ : ∃ LL, LL = max La Lb + 1 := ⟨_, rfl⟩
  rw [← hLL]
  obtain ⟨sa, ua, rfl, hsa, hna⟩ := ha
  obtain ⟨sb, ub, rfl, hsb, hnb⟩ := hb
  obtain ⟨ao, ka, ca, rfl, _, _⟩ := hna.form
  obtain ⟨bo, kb, cb, rfl, _, _⟩ := hnb.form
  have hb0 : Below w.heap.size w (((w.alloc (.cells #[.bool sa, .slice ao ka ca] 38)).alloc (.cells #[.bool sb, .slice bo kb cb] 38)).alloc (.cells #[.bool false, .slice none 0 0] 38)) := (((Below.refl _ _).alloc (Nat.le_refl _) _).alloc (by simp) _).alloc (by simp; omega) _
  have HNA := Lib.hid (hna.below hb0)
  have HNB := Lib.hid (hnb.below hb0)
  have HB := Lib.hid hb0
  have HBX : Hid ((((w.alloc (.cells #[.bool sa, .slice ao ka ca] 38)).alloc (.cells #[.bool sb, .slice bo kb cb] 38)).alloc (.cells #[.bool false, .slice none 0 0] 38)).heap[w.heap.size + 2]? = some (.cells #[.bool false, .slice none 0 0] 38 (0, 0))) := theap_last _ _ _ (by simp)
  have HSA := Lib.hid hsa
  have HSB := Lib.hid hsb
  clear hna hnb hb0 hsa hsb
  by_cases hss : sa = sb
  · have t1 : (sa == sb) = true := by simpa using hss
    have HSS := Lib.hid hss
    clear hss
    go_enter Tryz.func12, Tryz.ntmps12
    go_wp2_with fail
    go_region_held3 (fun w' => w'.cell? ⟨w.heap.size, 0, none⟩ = some (.bool sa) ∧ w'.cell? ⟨w.heap.size, 1, none⟩ = some (.slice ao ka ca) ∧ w'.cell? ⟨w.heap.size + 1, 0, none⟩ = some (.bool sb) ∧ w'.cell? ⟨w.heap.size + 1, 1, none⟩ = some (.slice bo kb cb))
      (first | exact ⟨kd0, kd1, kd2, kd3⟩ | exact ⟨kc0, kc1, kc2, kc3⟩ | exact ⟨ke0, ke1, ke2, ke3⟩ | (refine ⟨?_, ?_, ?_, ?_⟩ <;> simp [go_sem, kd0, kd1, kd2, kd3]; done) | (refine ⟨?_, ?_, ?_, ?_⟩ <;> simp [go_sem]; done) | go_keep)
      ((first | (go_at_call 28; refine (addN_num (La := La) (Lb := Lb) (m := y.natAbs) (n := z.natAbs) (by exact HNA.out) (by exact HNB.out) (by omega) (by omega)).mono ?_; rintro e w1 ⟨hb1, v1, rfl, hn1⟩; have s1 := hb1.size; simp at s1; have kc0 := tbelowCell hb1 (v := .bool sa) (b := w.heap.size) (o := 0) (by simp [go_sem]); have kc1 := tbelowCell hb1 (v := .slice ao ka ca) (b := w.heap.size) (o := 1) (by simp [go_sem]); have kc2 := tbelowCell hb1 (v := .bool sb) (b := w.heap.size + 1) (o := 0) (by simp [go_sem]); have kc3 := tbelowCell hb1 (v := .slice bo kb cb) (b := w.heap.size + 1) (o := 1) (by simp [go_sem])) | (go_at_call 26; refine (rint_any sa hn1).mono ?_; rintro e w2 ⟨hb2, v2, rfl, s, sv, rfl, hs, hn2⟩; have HS := Lib.hid hs; clear hs; obtain ⟨ao2, k2, c2, rfl, _, _⟩ := hn2.form; have s2 := hb2.size; have kd0 := tbelowCell hb2 kc0; have kd1 := tbelowCell hb2 kc1; have kd2 := tbelowCell hb2 kc2; have kd3 := tbelowCell hb2 kc3; have hbx : w2.heap[w.heap.size + 2]? = some (.cells #[.bool false, .slice none 0 0] 38 (0, 0)) := (hb2.block _ (by omega)).trans ((hb1.block _ (by simp)).trans HBX.out); obtain ⟨c0, c1, f0, f1⟩ := ttwo_cells hbx; have hsz : w.heap.size + 2 < w2.heap.size := (Array.getElem?_eq_some_iff.1 hbx).1)))
    have hball := (HB.out.drew.trans (hb1.mono (B' := w.heap.size) (by first | (simp; omega) | omega))).trans (hb2.mono (B' := w.heap.size) (by omega))
    have HE := Lib.hid (rint_end (z := y + z) (s := s) (ao := ao2) (k := k2) (c := c2) hbx hball (by omega) (by rw [HS.out, sgn_same HSA.out HSB.out HSS.out]) (by have := hn2; rw [sgn_same HSA.out HSB.out HSS.out] at this; exact this.mono (L' := LL) (by omega)))
    clear hball hbx hb1 hb2 hn1 hn2
    go_wp2
    exact bodyPost_ret (v := .agg #[.bool s, .slice ao2 k2 c2]) (by simp [results, Tryz.results12, go_sem, HE.out.2.1, HE.out.2.2]) rfl HE.out.1
  · have t1 : (sa == sb) = false := by simpa using hss
    have HSS := Lib.hid hss
    clear hss
    by_cases hlt : (y.natAbs : Int) < z.natAbs
    · have HSG := Lib.hid (Dg.sg_lt hlt)
      go_enter Tryz.func12, Tryz.ntmps12
      go_wp2_with fail
      refine (cmpN_num (by exact HNA.out) (by exact HNB.out)).mono ?_
      rintro e w0 ⟨hb9, rfl⟩
      rw [HSG.out]
      have ke0 := tbelowCell hb9 (v := .bool sa) (b := w.heap.size) (o := 0) (by simp [go_sem])
      have ke1 := tbelowCell hb9 (v := .slice ao ka ca) (b := w.heap.size) (o := 1) (by simp [go_sem])
      have ke2 := tbelowCell hb9 (v := .bool sb) (b := w.heap.size + 1) (o := 0) (by simp [go_sem])
      have ke3 := tbelowCell hb9 (v := .slice bo kb cb) (b := w.heap.size + 1) (o := 1) (by simp [go_sem])
      have s0 := hb9.size
      simp at s0
      have HBX0 := Lib.hid ((hb9.block _ (by simp)).trans HBX.out)
      have HNA0 := Lib.hid (HNA.out.below hb9)
      have HNB0 := Lib.hid (HNB.out.below hb9)
      have HB0 := Lib.hid (HB.out.trans (hb9.mono (B' := w.heap.size) (by simp; omega)))
      clear hb9
      go_wp2_with fail
      go_region_held3 (fun w' => w'.cell? ⟨w.heap.size, 0, none⟩ = some (.bool sa) ∧ w'.cell? ⟨w.heap.size, 1, none⟩ = some (.slice ao ka ca) ∧ w'.cell? ⟨w.heap.size + 1, 0, none⟩ = some (.bool sb) ∧ w'.cell? ⟨w.heap.size + 1, 1, none⟩ = some (.slice bo kb cb))
        (first | exact ⟨kd0, kd1, kd2, kd3⟩ | exact ⟨kc0, kc1, kc2, kc3⟩ | exact ⟨ke0, ke1, ke2, ke3⟩ | (refine ⟨?_, ?_, ?_, ?_⟩ <;> simp [go_sem, kd0, kd1, kd2, kd3]; done) | (refine ⟨?_, ?_, ?_, ?_⟩ <;> simp [go_sem]; done) | go_keep)
        ((first | (go_at_call 30; refine (subN_num (La := Lb) (Lb := La) (m := z.natAbs) (n := y.natAbs) (by exact HNB0.out) (by exact HNA0.out) (by omega) (by omega)).mono ?_; rintro e w1 ⟨hb1, v1, rfl, hn1⟩; have s1 := hb1.size; simp at s1; have kc0 := tbelowCell hb1 (v := .bool sa) (b := w.heap.size) (o := 0) (by exact ke0); have kc1 := tbelowCell hb1 (v := .slice ao ka ca) (b := w.heap.size) (o := 1) (by exact ke1); have kc2 := tbelowCell hb1 (v := .bool sb) (b := w.heap.size + 1) (o := 0) (by exact ke2); have kc3 := tbelowCell hb1 (v := .slice bo kb cb) (b := w.heap.size + 1) (o := 1) (by exact ke3)) | (go_at_call 26; refine (rint_any sb hn1).mono ?_; rintro e w2 ⟨hb2, v2, rfl, s, sv, rfl, hs, hn2⟩; have HS := Lib.hid hs; clear hs; obtain ⟨ao2, k2, c2, rfl, _, _⟩ := hn2.form; have s2 := hb2.size; have kd0 := tbelowCell hb2 kc0; have kd1 := tbelowCell hb2 kc1; have kd2 := tbelowCell hb2 kc2; have kd3 := tbelowCell hb2 kc3; have hbx : w2.heap[w.heap.size + 2]? = some (.cells #[.bool false, .slice none 0 0] 38 (0, 0)) := (hb2.block _ (by omega)).trans ((hb1.block _ (by first | (simp; omega) | omega)).trans HBX0.out); obtain ⟨c0, c1, f0, f1⟩ := ttwo_cells hbx; have hsz : w.heap.size + 2 < w2.heap.size := (Array.getElem?_eq_some_iff.1 hbx).1)))
      have hball := (HB0.out.drew.trans (hb1.mono (B' := w.heap.size) (by first | (simp; omega) | omega))).trans (hb2.mono (B' := w.heap.size) (by omega))
      have HE := Lib.hid (rint_end (z := y + z) (s := s) (ao := ao2) (k := k2) (c := c2) hbx hball (by omega) (by rw [HS.out, sgn_less HSA.out HSB.out HSS.out]) (by have := hn2; rw [sgn_less HSA.out HSB.out HSS.out] at this; exact this.mono (L' := LL) (by omega)))
      clear hball hbx hb1 hb2 hn1 hn2
      go_wp2
      exact bodyPost_ret (v := .agg #[.bool s, .slice ao2 k2 c2]) (by simp [results, Tryz.results12, go_sem, HE.out.2.1, HE.out.2.2]) rfl HE.out.1
    · have HLT := Lib.hid hlt
      go_enter Tryz.func12, Tryz.ntmps12
      go_wp2_with fail
      refine (cmpN_num (by exact HNA.out) (by exact HNB.out)).mono ?_
      rintro e w0 ⟨hb9, rfl⟩
      have hsg : ¬ Dg.sg (y.natAbs : Int) z.natAbs < 0 := by
        unfold Dg.sg
        rw [if_neg (show ¬ (y.natAbs : Int) < z.natAbs by have := HLT.out; omega)]
        split <;> omega
      obtain ⟨g, hg⟩ : ∃ g, g = Dg.sg (y.natAbs : Int) z.natAbs := ⟨_, rfl⟩
      rw [← hg] at hsg ⊢
      clear hg
      have ke0 := tbelowCell hb9 (v := .bool sa) (b := w.heap.size) (o := 0) (by simp [go_sem])
      have ke1 := tbelowCell hb9 (v := .slice ao ka ca) (b := w.heap.size) (o := 1) (by simp [go_sem])
      have ke2 := tbelowCell hb9 (v := .bool sb) (b := w.heap.size + 1) (o := 0) (by simp [go_sem])
      have ke3 := tbelowCell hb9 (v := .slice bo kb cb) (b := w.heap.size + 1) (o := 1) (by simp [go_sem])
      have s0 := hb9.size
      simp at s0
      have HBX0 := Lib.hid ((hb9.block _ (by simp)).trans HBX.out)
      have HNA0 := Lib.hid (HNA.out.below hb9)
      have HNB0 := Lib.hid (HNB.out.below hb9)
      have HB0 := Lib.hid (HB.out.trans (hb9.mono (B' := w.heap.size) (by simp; omega)))
      clear hb9
      go_wp2_with fail
      go_region_held3 (fun w' => w'.cell? ⟨w.heap.size, 0, none⟩ = some (.bool sa) ∧ w'.cell? ⟨w.heap.size, 1, none⟩ = some (.slice ao ka ca) ∧ w'.cell? ⟨w.heap.size + 1, 0, none⟩ = some (.bool sb) ∧ w'.cell? ⟨w.heap.size + 1, 1, none⟩ = some (.slice bo kb cb))
        (first | exact ⟨kd0, kd1, kd2, kd3⟩ | exact ⟨kc0, kc1, kc2, kc3⟩ | exact ⟨ke0, ke1, ke2, ke3⟩ | (refine ⟨?_, ?_, ?_, ?_⟩ <;> simp [go_sem, kd0, kd1, kd2, kd3]; done) | (refine ⟨?_, ?_, ?_, ?_⟩ <;> simp [go_sem]; done) | go_keep)
        ((first | (go_at_call 30; refine (subN_num (La := La) (Lb := Lb) (m := y.natAbs) (n := z.natAbs) (by exact HNA0.out) (by exact HNB0.out) (by omega) (by omega)).mono ?_; rintro e w1 ⟨hb1, v1, rfl, hn1⟩; have s1 := hb1.size; simp at s1; have kc0 := tbelowCell hb1 (v := .bool sa) (b := w.heap.size) (o := 0) (by exact ke0); have kc1 := tbelowCell hb1 (v := .slice ao ka ca) (b := w.heap.size) (o := 1) (by exact ke1); have kc2 := tbelowCell hb1 (v := .bool sb) (b := w.heap.size + 1) (o := 0) (by exact ke2); have kc3 := tbelowCell hb1 (v := .slice bo kb cb) (b := w.heap.size + 1) (o := 1) (by exact ke3)) | (go_at_call 26; refine (rint_any sa hn1).mono ?_; rintro e w2 ⟨hb2, v2, rfl, s, sv, rfl, hs, hn2⟩; have HS := Lib.hid hs; clear hs; obtain ⟨ao2, k2, c2, rfl, _, _⟩ := hn2.form; have s2 := hb2.size; have kd0 := tbelowCell hb2 kc0; have kd1 := tbelowCell hb2 kc1; have kd2 := tbelowCell hb2 kc2; have kd3 := tbelowCell hb2 kc3; have hbx : w2.heap[w.heap.size + 2]? = some (.cells #[.bool false, .slice none 0 0] 38 (0, 0)) := (hb2.block _ (by omega)).trans ((hb1.block _ (by first | (simp; omega) | omega)).trans HBX0.out); obtain ⟨c0, c1, f0, f1⟩ := ttwo_cells hbx; have hsz : w.heap.size + 2 < w2.heap.size := (Array.getElem?_eq_some_iff.1 hbx).1)))
      have hball := (HB0.out.drew.trans (hb1.mono (B' := w.heap.size) (by first | (simp; omega) | omega))).trans (hb2.mono (B' := w.heap.size) (by omega))
      have HE := Lib.hid (rint_end (z := y + z) (s := s) (ao := ao2) (k := k2) (c := c2) hbx hball (by omega) (by rw [HS.out, sgn_more HSA.out HSB.out HSS.out]) (by have := hn2; rw [sgn_more HSA.out HSB.out HSS.out] at this; exact this.mono (L' := LL) (by omega)))
      clear hball hbx hb1 hb2 hn1 hn2
      go_wp2
      exact bodyPost_ret (v := .agg #[.bool s, .slice ao2 k2 c2]) (by simp [results, Tryz.results12, go_sem, HE.out.2.1, HE.out.2.2]) rfl HE.out.1
set_option maxRecDepth 20000 in
set_option maxHeartbeats 4000000 in
theorem rsubz_any {La Lb : Nat} {va vb : Value} {y z : Int} {w : World} (ha : ZV La w va y) (hb : ZV Lb w vb z) (h1 : La ≤ 16000000000000) (h2 : Lb ≤ 16000000000000) :
    Calls Tryz.prog 24 #[va, vb] w (RetZ (max La Lb + 1) w (y - z)) := by
  have ha' := ha
  have hb' := hb
  obtain ⟨sa, ua, rfl, hsa, hna⟩ := ha
  obtain ⟨sb, ub, rfl, hsb, hnb⟩ := hb
  obtain ⟨ao, ka, ca, rfl, _, _⟩ := hna.form
  obtain ⟨bo, kb, cb, rfl, _, _⟩ := hnb.form
  have hb0 : Below w.heap.size w (((w.alloc (.cells #[.bool sa, .slice ao ka ca] 38)).alloc (.cells #[.bool sb, .slice bo kb cb] 38)).alloc (.cells #[.bool false, .slice none 0 0] 38)) := (((Below.refl _ _).alloc (Nat.le_refl _) _).alloc (by simp) _).alloc (by simp; omega) _
  have HA := Lib.hid (ha'.below hb0)
  have HBV := Lib.hid (hb'.below hb0)
  have HB := Lib.hid hb0
  have HBX : Hid ((((w.alloc (.cells #[.bool sa, .slice ao ka ca] 38)).alloc (.cells #[.bool sb, .slice bo kb cb] 38)).alloc (.cells #[.bool false, .slice none 0 0] 38)).heap[w.heap.size + 2]? = some (.cells #[.bool false, .slice none 0 0] 38 (0, 0))) := theap_last _ _ _ (by simp)
  clear hna hnb hb0 hsa hsb ha' hb'
  go_enter Tryz.func24, Tryz.ntmps24
  go_wp2_with fail
  go_region_held3 (fun w' => w'.cell? ⟨w.heap.size, 0, none⟩ = some (.bool sa) ∧ w'.cell? ⟨w.heap.size, 1, none⟩ = some (.slice ao ka ca) ∧ w'.cell? ⟨w.heap.size + 1, 0, none⟩ = some (.bool sb) ∧ w'.cell? ⟨w.heap.size + 1, 1, none⟩ = some (.slice bo kb cb))
    (first | exact ⟨kd0, kd1, kd2, kd3⟩ | exact ⟨kc0, kc1, kc2, kc3⟩ | (refine ⟨?_, ?_, ?_, ?_⟩ <;> simp [go_sem, kd0, kd1, kd2, kd3]; done) | (refine ⟨?_, ?_, ?_, ?_⟩ <;> simp [go_sem]; done) | go_keep)
    ((first
      | (go_at_call 49; refine (rnegz_any (L := Lb) (z := z) (by exact HBV.out)).mono ?_; rintro e w1 ⟨hb1, v1, rfl, hI1⟩; have s1 := hb1.size; simp at s1; have kc0 := tbelowCell hb1 (v := .bool sa) (b := w.heap.size) (o := 0) (by simp [go_sem]); have kc1 := tbelowCell hb1 (v := .slice ao ka ca) (b := w.heap.size) (o := 1) (by simp [go_sem]); have kc2 := tbelowCell hb1 (v := .bool sb) (b := w.heap.size + 1) (o := 0) (by simp [go_sem]); have kc3 := tbelowCell hb1 (v := .slice bo kb cb) (b := w.heap.size + 1) (o := 1) (by simp [go_sem]); have HA1 : Hid (ZV La w1 (.agg #[.bool sa, .slice ao ka ca]) y) := ZV.below (by exact HA.out) hb1)
      | (go_at_call 12; refine (raddz_any (y := y) (z := -z) HA1.out hI1 (by omega) (by omega)).mono ?_; rintro e w2 ⟨hb2, v2, rfl, s, sv, rfl, hs, hn2⟩; have HS := Lib.hid hs; clear hs; obtain ⟨ao2, k2, c2, rfl, _, _⟩ := hn2.form; have s2 := hb2.size; have kd0 := tbelowCell hb2 kc0; have kd1 := tbelowCell hb2 kc1; have kd2 := tbelowCell hb2 kc2; have kd3 := tbelowCell hb2 kc3; have hbx : w2.heap[w.heap.size + 2]? = some (.cells #[.bool false, .slice none 0 0] 38 (0, 0)) := (hb2.block _ (by omega)).trans ((hb1.block _ (by simp)).trans HBX.out); obtain ⟨c0, c1, f0, f1⟩ := ttwo_cells hbx; have hsz : w.heap.size + 2 < w2.heap.size := (Array.getElem?_eq_some_iff.1 hbx).1)))
  have hball := (HB.out.drew.trans (hb1.mono (B' := w.heap.size) (by simp; omega))).trans (hb2.mono (B' := w.heap.size) (by omega))
  have HE := Lib.hid (rint_end (L := max La Lb + 1) (z := y - z) (s := s) (ao := ao2) (k := k2) (c := c2) hbx hball (by omega) (by rw [HS.out, Int.sub_eq_add_neg]) (by rw [Int.sub_eq_add_neg]; exact hn2))
  clear hball hbx hb1 hb2 hn2
  go_wp2
  exact bodyPost_ret (v := .agg #[.bool s, .slice ao2 k2 c2]) (by simp [results, Tryz.results24, go_sem, HE.out.2.1, HE.out.2.2]) rfl HE.out.1
set_option maxRecDepth 20000 in
set_option maxHeartbeats 1000000 in
theorem rcmpz_any {La Lb : Nat} {va vb : Value} {y z : Int} {w : World} (ha : ZV La w va y) (hb : ZV Lb w vb z) (h1 : La ≤ 16000000000000) (h2 : Lb ≤ 16000000000000) :
    Calls Tryz.prog 14 #[va, vb] w (RetV w (.int .i64 (Dg.sg y z))) := by
  have HA := TKept.mk ha
  have HB := TKept.mk hb
  obtain ⟨sa, ua, rfl, hsa, hna⟩ := ha
  obtain ⟨sb, ub, rfl, hsb, hnb⟩ := hb
  obtain ⟨ao, ka, ca, rfl, _, _⟩ := hna.form
  obtain ⟨bo, kb, cb, rfl, _, _⟩ := hnb.form
  have HX0 : TKept (TBxs w [.cells #[.bool sa, .slice ao ka ca] 38, .cells #[.bool sb, .slice bo kb cb] 38] ((w.alloc (.cells #[.bool sa, .slice ao ka ca] 38)).alloc (.cells #[.bool sb, .slice bo kb cb] 38))) := ⟨((TBxs.start w).alloc (by simp) _).alloc (by simp) _⟩
  have HSG : TKept (Dg.sg (y - z) 0 = Dg.sg y z) := ⟨sg_mono (by omega) (by omega)⟩
  clear hsa hna hsb hnb
  go_enter Tryz.func14, Tryz.ntmps14
  go_wp2_with fail
  refine (rsubz_any (HA.out.below HX0.out.1) (HB.out.below HX0.out.1) h1 h2).mono ?_
  rintro e w1 ⟨hb1, v1, rfl, hZ1⟩
  have HX1 := TKept.mk (HX0.out.below hb1)
  have HZ1 := TKept.mk hZ1
  clear hb1 hZ1
  go_wp2_with fail
  refine (rsignz_any HZ1.out).mono ?_
  rintro e w2 ⟨hb2, rfl⟩
  have HX2 := TKept.mk (HX1.out.below hb2)
  clear hb2
  go_wp2
  go_ret
  exact ⟨HX2.out.1, by rw [← HSG.out]; rfl⟩
end Go.Proofs.YtfhhnfpapgfnmaaGreat

set_option linter.unusedVariables false
set_option linter.unusedSimpArgs false
namespace Go.Proofs.YtfhhnfpapgfnmaaGreat
open Go Go.RowKit
theorem valD_at {l : List UInt8} {k : Nat} {c : UInt8} (hk : k < l.length) (hc : l[k]? = some c) : Dg.valD (l.drop k) = (c.toNat - 48) * 10 ^ (l.length - (k + 1)) + Dg.valD (l.drop (k + 1)) := by
  have e : l.drop k = [c] ++ l.drop (k + 1) := by
    rw [List.drop_eq_getElem_cons hk]
    rw [List.getElem?_eq_getElem hk] at hc
    cases hc
    rfl
  rw [e, Dg.valD_append]
  congr 1
  · congr 1
    · simp [Dg.valD]
    · simp
/-- How far the reference's reading of digits has come: the bytes from k on are read, D and the limb hold them. -/
structure RpAt (l : List UInt8) (k : Nat) (D : List Int) (u p : Int) (j : Nat) : Prop where
  kl : k ≤ l.length
  dig : Dg.AllDig (l.drop k)
  wf : Dg.Wf BN D
  j9 : j < 9
  pj : p = 10 ^ j
  u0 : 0 ≤ u
  u1 : u < p
  val : Dg.val BN D + BN ^ D.length * u = Dg.valD (l.drop k)
  pow : BN ^ D.length * p = 10 ^ (l.length - k)
  len : 9 * D.length + j = l.length - k
theorem RpAt.start (l : List UInt8) : RpAt l l.length [] 0 1 0 :=
  ⟨Nat.le_refl _, by simp [Dg.AllDig], Dg.Wf.nil _, by omega, rfl, by omega, by omega, by simp [Dg.val, Dg.valD], by simp, by simp⟩
theorem RpAt.p1 {l : List UInt8} {k : Nat} {D : List Int} {u p : Int} {j : Nat} (h : RpAt l k D u p j) : 1 ≤ p ∧ p ≤ 100000000 := by
  obtain ⟨_, _, _, h9, rfl, _⟩ := h
  have h1 : (10 : Int) ^ j ≤ 10 ^ 8 := Dg.pow_mono (by omega) (by omega)
  have h2 : (0 : Int) < 10 ^ j := Dg.pow_pos (by omega) j
  have h3 : (10 : Int) ^ 8 = 100000000 := rfl
  omega
theorem RpAt.step {l : List UInt8} {k : Nat} {D : List Int} {u p : Int} {j : Nat} {c : UInt8} (h : RpAt l (k + 1) D u p j) (hc : l[k]? = some c) (h0 : 48 ≤ c.toNat) (h1 : c.toNat ≤ 57) :
    0 ≤ u + p * ((c.toNat : Int) - 48) ∧ u + p * ((c.toNat : Int) - 48) < 10 * p ∧
    Dg.val BN D + BN ^ D.length * (u + p * ((c.toNat : Int) - 48)) = Dg.valD (l.drop k) ∧ BN ^ D.length * (10 * p) = 10 ^ (l.length - k) ∧ Dg.AllDig (l.drop k) := by
  have hp := h.p1
  have hu0 := h.u0
  have hu1 := h.u1
  have hkl := h.kl
  have hm1 : 0 ≤ p * ((c.toNat : Int) - 48) := Int.mul_nonneg (by omega) (by omega)
  have hm2 : p * ((c.toNat : Int) - 48) ≤ p * 9 := Int.mul_le_mul_of_nonneg_left (by omega) (by omega)
  have e1 : l.length - k = l.length - (k + 1) + 1 := by omega
  refine ⟨by omega, by omega, ?_, ?_, ?_⟩
  · rw [valD_at (by omega) hc, Int.mul_add, ← Int.add_assoc, h.val, ← Int.mul_assoc, h.pow]
    have : ((c.toNat - 48 : Nat) : Int) = (c.toNat : Int) - 48 := by omega
    simp only [Int.natCast_add, Int.natCast_mul, Int.natCast_pow, this]
    rw [Int.mul_comm, Int.add_comm]
    rfl
  · rw [e1, Int.pow_succ, ← h.pow, Int.mul_comm 10 p, ← Int.mul_assoc]
  · intro x hx
    rw [List.drop_eq_getElem_cons (show k < l.length by omega)] at hx
    rw [List.getElem?_eq_getElem (show k < l.length by omega)] at hc
    have hc' := Option.some.inj hc
    rcases List.mem_cons.1 hx with hx | hx
    · rw [hx, hc']
      exact ⟨h0, h1⟩
    · exact h.dig x hx
theorem RpAt.stay {l : List UInt8} {k : Nat} {D : List Int} {u p : Int} {j : Nat} {c : UInt8} (h : RpAt l (k + 1) D u p j) (hc : l[k]? = some c) (h0 : 48 ≤ c.toNat) (h1 : c.toNat ≤ 57) (hn : 10 * p ≠ 1000000000) :
    RpAt l k D (u + p * ((c.toNat : Int) - 48)) (10 * p) (j + 1) := by
  obtain ⟨a0, a1, a2, a3, a4⟩ := h.step hc h0 h1
  have hkl := h.kl
  have hl := h.len
  refine ⟨by omega, a4, h.wf, ?_, ?_, a0, a1, a2, a3, by omega⟩
  · apply Classical.byContradiction
    intro hc
    have := h.j9
    obtain rfl : j = 8 := by omega
    exact hn (by rw [h.pj]; rfl)
  · rw [h.pj, Int.pow_succ, Int.mul_comm]
theorem RpAt.push {l : List UInt8} {k : Nat} {D : List Int} {u p : Int} {j : Nat} {c : UInt8} (h : RpAt l (k + 1) D u p j) (hc : l[k]? = some c) (h0 : 48 ≤ c.toNat) (h1 : c.toNat ≤ 57) (hn : 10 * p = 1000000000) :
    RpAt l k (D ++ [u + p * ((c.toNat : Int) - 48)]) 0 1 0 := by
  obtain ⟨a0, a1, a2, a3, a4⟩ := h.step hc h0 h1
  have hkl := h.kl
  have hl := h.len
  have hj8 : j = 8 := by
    apply Classical.byContradiction
    intro hc'
    have h9 := h.j9
    have hm : (10 : Int) ^ j ≤ 10 ^ 7 := Dg.pow_mono (by omega) (by omega)
    have h7 : (10 : Int) ^ 7 = 10000000 := rfl
    have := h.pj
    omega
  refine ⟨by omega, a4, h.wf.append (Dg.Wf.one a0 (by show _ < (1000000000 : Int); omega)), by omega, rfl, by omega, by omega, ?_, ?_, by simp; omega⟩
  · rw [Dg.val_append, Dg.val_one, Int.mul_zero, Int.add_zero]
    exact a2
  · rw [List.length_append, List.length_singleton, Int.pow_succ, Int.mul_one, ← a3, hn]
theorem RpAt.done0 {l : List UInt8} {D : List Int} {p : Int} {j : Nat} (h : RpAt l 0 D 0 p j) : Dg.val BN D = Dg.valD l := by
  have := h.val
  rw [Int.mul_zero, Int.add_zero] at this
  simpa using this
theorem RpAt.done1 {l : List UInt8} {D : List Int} {u p : Int} {j : Nat} (h : RpAt l 0 D u p j) : Dg.Wf BN (D ++ [u]) ∧ Dg.val BN (D ++ [u]) = Dg.valD l := by
  have h1 := h.val
  have h2 := h.p1
  have h3 := h.u1
  refine ⟨h.wf.append (Dg.Wf.one h.u0 (by show _ < (1000000000 : Int); omega)), ?_⟩
  rw [Dg.val_append, Dg.val_one]
  simpa using h1
end Go.Proofs.YtfhhnfpapgfnmaaGreat
