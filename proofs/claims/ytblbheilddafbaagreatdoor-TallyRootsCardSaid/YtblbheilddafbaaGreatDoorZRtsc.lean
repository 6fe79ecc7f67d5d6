/-
  Texts of the proof, merged by program: Roo Ro0 Zbx Rts Rtsc.
-/
import Derived.Test.YtblbheilddafbaaGreatDoorZRi6
import Derived.Test.YtblbheilddafbaaGreatDoorZ11
import Derived.Test.YtblbheilddafbaaGreatDoorZSums
import Derived.Test.YtblbheilddafbaaGreatDoorZ22
import Derived.SizedLaws
import Derived.ChangeMaps5
set_option linter.unusedVariables false
set_option linter.unusedSimpArgs false
namespace Go.Proofs.YtblbheilddafbaaGreatDoor
open Go Go.RowKit
/-- R is at least every integer whose square is at most z. -/
structure RoAt (K : Nat) (z R : Int) : Prop where
  pos : 0 < R
  up : ∀ s, 0 ≤ s → s * s ≤ z → s ≤ R
  fit : R < 18446744073709551616 ^ K
theorem sq_nonneg (x : Int) : 0 ≤ x * x := by
  by_cases h : 0 ≤ x
  · exact Int.mul_nonneg h h
  · have := Int.mul_nonneg (show 0 ≤ -x by omega) (show 0 ≤ -x by omega)
    rwa [Int.neg_mul_neg] at this
theorem ro_up {z R s : Int} (hR : 0 < R) (hs : 0 ≤ s) (hsz : s * s ≤ z) : s ≤ (R + z / R) / 2 := by
  have hz : 0 ≤ z := Int.le_trans (sq_nonneg s) hsz
  have hq0 : 0 ≤ z / R := Int.ediv_nonneg hz (by omega)
  have hq1 : z < (z / R + 1) * R := by rw [Int.add_mul, Int.one_mul]; have h1 := Int.emod_add_mul_ediv z R; have h2 := Int.emod_lt_of_pos z hR; rw [Int.mul_comm] at h1; omega
  generalize z / R = q at *
  have key : 2 * s ≤ R + q := by
    apply Classical.byContradiction
    intro hc
    have h1 : (q + 1) * R ≤ (2 * s - R) * R := Int.mul_le_mul_of_nonneg_right (by omega) (by omega)
    have h2 := sq_nonneg (s - R)
    have e1 : (2 * s - R) * R = 2 * (s * R) - R * R := by rw [Int.sub_mul, Int.mul_assoc]
    have e2 : (s - R) * (s - R) = s * s - 2 * (s * R) + R * R := by
      rw [Int.sub_mul, Int.mul_sub, Int.mul_sub, Int.mul_comm R s]
      omega
    rw [e1] at h1
    rw [e2] at h2
    omega
  omega
theorem RoAt.next {K : Nat} {z R : Int} (h : RoAt K z R) (hz : 0 < z) (hlt : (R + z / R) / 2 < R) : RoAt K z ((R + z / R) / 2) := by
  have h1 := ro_up (z := z) (s := 1) h.pos (by omega) (by omega)
  exact ⟨by omega, fun s h0 hs => ro_up h.pos h0 hs, Int.lt_trans hlt h.fit⟩
/-- R is the root of z. -/
def IsRoot (z R : Int) : Prop := 0 ≤ R ∧ R * R ≤ z ∧ z < (R + 1) * (R + 1)
theorem RoAt.done {K : Nat} {z R : Int} (h : RoAt K z R) (hge : R ≤ (R + z / R) / 2) : IsRoot z R := by
  have hp := h.pos
  have h1 : R ≤ z / R := by omega
  have h2 : z / R * R ≤ z := Int.ediv_mul_le _ (by omega)
  have h3 : R * R ≤ z / R * R := Int.mul_le_mul_of_nonneg_right h1 (by omega)
  refine ⟨by omega, by omega, ?_⟩
  apply Classical.byContradiction
  intro hc
  have := h.up (R + 1) (by omega) (by omega)
  omega
theorem RoAt.start {K e k : Nat} {z : Int} (hz : z < 2 ^ k) (he : k ≤ 2 * e) (hK : e < 64 * K) : RoAt K z (2 ^ e) := by
  have hp := Dg.pow_pos (show (0 : Int) < 2 by omega) e
  have h1 : z < 2 ^ e * 2 ^ e := by
    rw [← Int.pow_add]
    exact Int.lt_of_lt_of_le hz (Dg.pow_mono (by omega) (by omega))
  refine ⟨hp, fun s h0 hs => ?_, ?_⟩
  · apply Classical.byContradiction
    intro hc
    have := Int.mul_le_mul (show (2 : Int) ^ e ≤ s by omega) (show (2 : Int) ^ e ≤ s by omega) (by omega) h0
    omega
  · have : (18446744073709551616 : Int) ^ K = 2 ^ (64 * K) := by rw [Int.pow_mul]; rfl
    rw [this]
    have h2 := Dg.pow_mono (show (0 : Int) < 2 by omega) (show e + 1 ≤ 64 * K by omega)
    rw [Int.pow_succ] at h2
    omega
theorem sg_nonneg2 {a b : Int} (h : b ≤ a) : 0 ≤ Dg.sg a b := by
  unfold Dg.sg
  rw [if_neg (by omega)]
  split <;> omega
theorem shiftLeft_num {L e : Nat} {v : Value} {m c : Int} {w : World} (h : Num L w v m) (hc : c = e) (he : e ≤ 100000000000) (hL : L ≤ 1000000000) :
    Calls Tryz.prog 107 #[v, .int .i64 c] w (RetNum (L + e / 64 + 1) w (m * 2 ^ e)) := by
  subst hc
  obtain ⟨xs, a1, a2, a3, rfl, a5⟩ := h
  refine (shiftLeft_at v xs e (e / 64) (e % 64) w a1 a2 (by omega) (by omega) (by rw [Int.tdiv_eq_ediv_of_nonneg (by omega)]; omega) (by rw [Int.tmod_eq_emod_of_nonneg (by omega)]; omega) (by omega) (by omega) (by omega)).mono ?_
  rintro e' w' ⟨hb, v', he', hn, hf⟩
  refine ⟨hb, v', he', ?_, hf⟩
  have e1 : Dg.val BW xs * 2 ^ (e % 64) * BW ^ (e / 64) = Dg.val BW xs * 2 ^ e := by
    have : (BW : Int) ^ (e / 64) = 2 ^ (64 * (e / 64)) := by rw [Int.pow_mul]; rfl
    rw [this, Int.mul_assoc, ← Int.pow_add]
    congr 2
    omega
  rw [e1] at hn
  exact hn.mono (by omega)
theorem shiftRight_one {L : Nat} {v : Value} {m : Int} {w : World} (h : Num L w v m) (hL : L ≤ 1000000000) :
    Calls Tryz.prog 109 #[v, .int .i64 1] w (RetNum L w (m / 2)) := by
  obtain ⟨xs, a1, a2, a3, rfl, a5⟩ := h
  refine (shiftRight_at v xs 1 0 1 w a1 a2 (by omega) (by omega) rfl rfl (by omega) (by omega)).mono ?_
  rintro e' w' ⟨hb, v', he', hn, hf⟩
  refine ⟨hb, v', he', ?_, hf⟩
  have e1 : (BW : Int) ^ 0 * 2 ^ 1 = 2 := rfl
  rw [e1] at hn
  exact hn.mono a5
set_option maxRecDepth 20000 in
set_option maxHeartbeats 4000000 in
theorem root_any {L : Nat} {v : Value} {z : Int} {w : World} (h : IntV L w v z) (hL : L ≤ 100000000) (hz : 0 < z) :
    Calls Tryz.prog 49 #[v] w fun e w' => ∃ R, IsRoot z R ∧ RetOk (L + 3) w R e w' := by
  have HV := Kept.mk h
  obtain ⟨sb, sv, rfl, hsb, hn⟩ := h
  have hsf : sb = false := by rw [hsb]; simp; omega
  subst hsf
  have hzz : (z.natAbs : Int) = z := by omega
  rw [hzz] at hn
  obtain ⟨ao, k, c, rfl⟩ := hn.form
  have HN := Kept.mk hn
  have HX0 : Kept (Bxs w [.cells #[.bool false, .slice ao k c] 30, .cells #[.bool false, .slice none 0 0] 30] ((w.alloc (.cells #[.bool false, .slice ao k c] 30)).alloc (.cells #[.bool false, .slice none 0 0] 30))) := ⟨((Bxs.start w).alloc (by simp) _).alloc (by simp) _⟩
  have hsg := Kept.mk (Dg.sg_gt hz)
  clear hsb hn hzz
  go_enter Tryz.func49, Tryz.ntmps49
  go_wp2_with fail
  refine (sign_any (HV.out.below HX0.out.1)).mono ?_
  rintro e w1 ⟨hb1, he1⟩
  rw [hsg.out] at he1
  subst he1
  have HX1 := Kept.mk (HX0.out.below hb1)
  clear hb1
  obtain ⟨i0, i1, -, -⟩ := two_cells HX1.out.b0
  go_wp2_with fail
  refine wp_region_held_drew (S := fun w' => w'.cell? ⟨w.heap.size, 0, none⟩ = some (.bool false) ∧ w'.cell? ⟨w.heap.size, 1, none⟩ = some (.slice ao k c)) (by kernel_rfl) ?_ (fun hHeld => ?_)
  · exact ⟨i0, i1⟩
  refine wpAnyH_take (i := 1) (v := ?_) rfl (by kernel_rfl) (by kernel_rfl) (by kernel_rfl) (fun _ _ _ h => h) (Or.inl ⟨by rfl, ?_⟩) (by assumption) ?_
  rotate_left
  · (intro w hSw; (try dsimp only at hSw); go_simp; (try with_reducible rfl))
  try simp only [Act.put, List.getElem_toArray, List.getElem_cons_succ, List.getElem_cons_zero, List.setIfInBounds_toArray, List.set_cons_zero, List.set_cons_succ]
  refine wpAnyH_take (i := 2) (v := ?_) rfl (by kernel_rfl) (by kernel_rfl) (by kernel_rfl) (fun _ _ _ h => h) (Or.inl ⟨by rfl, ?_⟩) (by assumption) ?_
  rotate_left
  · (intro w hSw; (try dsimp only at hSw); go_simp; (try with_reducible rfl))
  try simp only [Act.put, List.getElem_toArray, List.getElem_cons_succ, List.getElem_cons_zero, List.setIfInBounds_toArray, List.set_cons_zero, List.set_cons_succ]
  refine wpAnyH_ready (rs := [0]) (by kernel_rfl) (by simp) ?_
  refine AllReadyH.cons rfl (fun K hK => ?_) AllReadyH.nil
  go_simp
  refine (oneWord_any 1 _ (by omega) (by omega)).mono ?_
  rintro e w2 ⟨hb2, v2, rfl, hN2, hf2⟩
  have hx2 := HX1.out.drew.below hb2
  obtain ⟨p2, q2, -, -⟩ := two_cells hx2.b0
  refine hK.out _ _ ?_ (fun hHeld => ?_)
  · exact ⟨p2, q2⟩
  clear hK K
  try simp only [Act.put, List.getElem_toArray, List.getElem_cons_succ, List.getElem_cons_zero, List.setIfInBounds_toArray, List.set_cons_zero, List.set_cons_succ]
  refine wpAnyH_ready (rs := [3]) (by kernel_rfl) (by simp) ?_
  refine AllReadyH.cons rfl (fun K hK => ?_) AllReadyH.nil
  go_simp
  refine (bitLength_any (HN.out.below hx2.1) (by omega)).mono ?_
  rintro e w3 ⟨kb, rfl, rfl, hk1, hk2, hk3, hk4⟩
  have hkb0 : (0 : Int) ≤ kb := by omega
  refine hK.out _ _ ?_ (fun hHeld => ?_)
  · exact ⟨p2, q2⟩
  clear hK K
  try simp only [Act.put, List.getElem_toArray, List.getElem_cons_succ, List.getElem_cons_zero, List.setIfInBounds_toArray, List.set_cons_zero, List.set_cons_succ]
  refine wpAnyH_take (i := 4) (v := ?_) rfl (by kernel_rfl) (by kernel_rfl) (by kernel_rfl) (fun _ _ _ h => h) (Or.inl ⟨by rfl, ?_⟩) (by assumption) ?_
  rotate_left
  · (intro w hSw; (try dsimp only at hSw); go_simp; (try with_reducible rfl))
  try simp only [Act.put, List.getElem_toArray, List.getElem_cons_succ, List.getElem_cons_zero, List.setIfInBounds_toArray, List.set_cons_zero, List.set_cons_succ]
  refine wpAnyH_take (i := 5) (v := ?_) rfl (by kernel_rfl) (by kernel_rfl) (by kernel_rfl) (fun _ _ _ h => h) (Or.inl ⟨by rfl, ?_⟩) (by assumption) ?_
  rotate_left
  · (intro w hSw; (try dsimp only at hSw); go_simp; (try with_reducible rfl))
  try simp only [Act.put, List.getElem_toArray, List.getElem_cons_succ, List.getElem_cons_zero, List.setIfInBounds_toArray, List.set_cons_zero, List.set_cons_succ]
  refine wpAnyH_ready (rs := [6]) (by kernel_rfl) (by simp) ?_
  refine AllReadyH.cons rfl (fun K hK => ?_) AllReadyH.nil
  go_simp
  have hcw : IntKind.i64.wrap ((IntKind.i64.wrap ((kb : Int) + 1)).tdiv 2) = (((kb + 1) / 2 : Nat) : Int) := by
    have w1 : IntKind.i64.wrap ((kb : Int) + 1) = kb + 1 := by rw [IntKind.wrap_i64]; omega
    rw [w1, Int.tdiv_eq_ediv_of_nonneg (by omega), IntKind.wrap_i64]
    omega
  obtain ⟨E, hE⟩ : ∃ E : Nat, (kb + 1) / 2 = E := ⟨_, rfl⟩
  rw [hE] at hcw
  rw [hcw]
  clear hcw
  refine (shiftLeft_num (e := E) hN2 rfl (by omega) (by omega)).mono ?_
  rintro e w4 ⟨hb4, v4, rfl, hN4, hf4⟩
  have hx4 := hx2.below hb4
  obtain ⟨p4, q4, -, -⟩ := two_cells hx4.b0
  refine hK.out _ _ ?_ (fun hHeld => ?_)
  · exact ⟨p4, q4⟩
  clear hK K
  try simp only [Act.put, List.getElem_toArray, List.getElem_cons_succ, List.getElem_cons_zero, List.setIfInBounds_toArray, List.set_cons_zero, List.set_cons_succ]
  refine wpAnyH_take (i := 7) (v := ?_) rfl (by kernel_rfl) (by kernel_rfl) (by kernel_rfl) (fun _ _ _ h => h) (Or.inl ⟨by rfl, ?_⟩) (by assumption) ?_
  rotate_left
  · (intro w hSw; (try dsimp only at hSw); go_simp; (try with_reducible rfl))
  try simp only [Act.put, List.getElem_toArray, List.getElem_cons_succ, List.getElem_cons_zero, List.setIfInBounds_toArray, List.set_cons_zero, List.set_cons_succ]
  refine wpAnyH_done (by kernel_rfl) ?_ _
  have HR0 := Kept.mk (RoAt.start (K := L + 1) (e := E) hk1 (by omega) (by omega))
  rw [Int.one_mul] at hN4
  have HN4 : Kept (Num (L + 3) w4 v4 (2 ^ E)) := ⟨hN4.mono (by omega)⟩
  have HX4 := Kept.mk hx4
  obtain ⟨R0, hR0⟩ : ∃ R0 : Int, 2 ^ E = R0 := ⟨_, rfl⟩
  rw [hR0] at HR0 HN4
  clear hb2 hb4 hN2 hN4 hf2 hf4 hx2 hx4 p2 q2 p4 q4 hk1 hk2 hk3 hk4 hR0 hE i0 i1
  go_wp2
  go_loopg [4] R0.toNat (fun kk rv wr => ∃ R : Int, R.toNat ≤ kk ∧ Kept (RoAt (L + 1) z R) ∧ Kept (Num (L + 3) wr rv R) ∧ Kept (Bxs w [.cells #[.bool false, .slice ao k c] 30, .cells #[.bool false, .slice none 0 0] 30] wr))
  case atStart => exact ⟨R0, Nat.le_refl _, HR0, HN4, HX4⟩
  case round =>
    obtain ⟨R, hRk, hat, hr, hx⟩ := hrel
    obtain ⟨i0, i1, -, -⟩ := two_cells hx.out.b0
    have hRp := hat.out.pos
    go_wp2_with fail
    refine (divide_num (HN.out.below hx.out.1) hr.out hRp (by omega)).mono ?_
    rintro e w5 ⟨hb5, q5, r5, rfl, hq5, hr5, hf5, hg5⟩
    have HX5 := Kept.mk (hx.out.below hb5)
    have HR5 := Kept.mk (hr.out.below hb5)
    have HQ5 := Kept.mk hq5
    clear hb5 hq5 hr5 hf5 hg5 i0 i1
    go_wp2_with fail
    refine (sum_num HR5.out HQ5.out (by omega) (by omega)).mono ?_
    rintro e w6 ⟨hb6, v6, rfl, hN6, hf6⟩
    have HX6 := Kept.mk (HX5.out.below hb6)
    have HR6 := Kept.mk (HR5.out.below hb6)
    have HN6 := Kept.mk hN6
    clear hb6 hN6 hf6
    go_wp2_with fail
    refine (shiftRight_one HN6.out (by omega)).mono ?_
    rintro e w7 ⟨hb7, v7, rfl, hN7, hf7⟩
    have HX7 := Kept.mk (HX6.out.below hb7)
    have HR7 := Kept.mk (HR6.out.below hb7)
    obtain ⟨Y, hY⟩ : ∃ Y, (R + z / R) / 2 = Y := ⟨_, rfl⟩
    rw [hY] at hN7
    have HN7 := Kept.mk hN7
    have HY := Kept.mk hY
    clear hb7 hN7 hf7 hY
    by_cases hlt : Y < R
    · have hs1 := Kept.mk (Dg.sg_lt hlt)
      have HAT := Kept.mk (hat.out.next hz (by rw [HY.out]; exact hlt))
      have hyp : 0 < Y := by have := HAT.out.pos; rw [HY.out] at this; exact this
      go_wp2_with fail
      refine (compare_num HN7.out HR7.out).mono ?_
      rintro e w8 ⟨hb8, he8⟩
      rw [hs1.out] at he8
      subst he8
      have HX8 := Kept.mk (HX7.out.below hb8)
      have HN8 : Kept (Num (L + 3) w8 v7 Y) := ⟨((HN7.out.below hb8).fit (L' := L + 1) (by have := HAT.out.fit; rw [HY.out] at this; exact this)).mono (by omega)⟩
      clear hb8
      go_wp2
      go_roundg Y.toNat
      case rel => exact ⟨Y, Nat.le_refl _, ⟨by have := HAT.out; rw [HY.out] at this; exact this⟩, HN8, HX8⟩
      case measure => omega
    · have hge : 0 ≤ Dg.sg Y R := sg_nonneg2 (by omega)
      have hnl : ¬ Dg.sg Y R < 0 := by omega
      obtain ⟨g, hg⟩ : ∃ g, Dg.sg Y R = g := ⟨_, rfl⟩
      have hcm := compare_num HN7.out HR7.out
      rw [hg] at hcm hge hnl
      have HCM := Kept.mk hcm
      have HRT := Kept.mk (hat.out.done (by rw [HY.out]; omega))
      have hdg : decide ((0 : Int) ≤ g) = true := decide_eq_true hge
      clear hg hcm
      go_wp2_with fail
      refine HCM.out.mono ?_
      rintro e w8 ⟨hb8, rfl⟩
      have HX8 := Kept.mk (HX7.out.below hb8)
      have HR8 := Kept.mk (HR7.out.below hb8)
      clear hb8
      go_wp2_with fail
      refine (signed_any false HR8.out).mono ?_
      rintro e w9 ⟨hb9, v9, rfl, s9, u9, rfl, hs9, hn9⟩
      have HX9 := Kept.mk (HX8.out.below hb9)
      obtain ⟨o9, k9, c9, rfl⟩ := hn9.form
      have hbx := HX9.out.b1
      obtain ⟨c0, c1', f0, f1⟩ := two_cells hbx
      have hsz := HX9.out.l2
      have HE := Kept.mk (int_end (w := w) (s := s9) (ao := o9) (k := k9) (c := c9) hbx HX9.out.1 (by omega) hs9 hn9)
      clear hb9 hs9 hn9 hbx
      go_wp2
      exact bodyPost_ret (v := .tuple #[.agg #[.bool s9, .slice o9 k9 c9], .int .i64 0]) (by simp [results, Tryz.results49, go_sem, HE.out.2.1, HE.out.2.2]) rfl ⟨R, HRT.out, HE.out.1.1, _, _, _, _, rfl, by obtain ⟨v, e, h⟩ := HE.out.1.2; cases e; exact h⟩
end Go.Proofs.YtblbheilddafbaaGreatDoor

set_option linter.unusedVariables false
set_option linter.unusedSimpArgs false
namespace Go.Proofs.YtblbheilddafbaaGreatDoor
open Go Go.RowKit
set_option maxRecDepth 20000 in
set_option maxHeartbeats 1000000 in
theorem root_neg {L : Nat} {v : Value} {z : Int} {w : World} (h : IntV L w v z) (hz : z < 0) :
    Calls Tryz.prog 49 #[v] w (RetV w (.tuple #[.agg #[.bool false, .slice none 0 0], .int .i64 1])) := by
  obtain ⟨sb, sv, rfl, hsb, hn⟩ := h
  have hsf : sb = true := by rw [hsb]; simp; omega
  subst hsf
  obtain ⟨ao, k, c, rfl⟩ := hn.form
  have HX0 : Kept (Bxs w [.cells #[.bool true, .slice ao k c] 30, .cells #[.bool false, .slice none 0 0] 30] ((w.alloc (.cells #[.bool true, .slice ao k c] 30)).alloc (.cells #[.bool false, .slice none 0 0] 30))) := ⟨((Bxs.start w).alloc (by simp) _).alloc (by simp) _⟩
  clear hsb hn
  go_enter Tryz.func49, Tryz.ntmps49
  go_wp2
  exact bodyPost_ret (v := .tuple #[.agg #[.bool false, .slice none 0 0], .int .i64 1]) (by simp [results, Tryz.results49, go_sem]) rfl ⟨HX0.out.1, rfl⟩
set_option maxRecDepth 20000 in
set_option maxHeartbeats 1000000 in
theorem root_zero {L : Nat} {v : Value} {w : World} (h : IntV L w v 0) :
    Calls Tryz.prog 49 #[v] w (RetV w (.tuple #[.agg #[.bool false, .slice none 0 0], .int .i64 0])) := by
  have HV := Kept.mk h
  obtain ⟨sb, sv, rfl, hsb, hn⟩ := h
  have hsf : sb = false := by rw [hsb]; simp
  subst hsf
  obtain ⟨ao, k, c, rfl⟩ := hn.form
  have HX0 : Kept (Bxs w [.cells #[.bool false, .slice ao k c] 30, .cells #[.bool false, .slice none 0 0] 30] ((w.alloc (.cells #[.bool false, .slice ao k c] 30)).alloc (.cells #[.bool false, .slice none 0 0] 30))) := ⟨((Bxs.start w).alloc (by simp) _).alloc (by simp) _⟩
  clear hsb hn
  go_enter Tryz.func49, Tryz.ntmps49
  go_wp2_with fail
  refine (sign_any (HV.out.below HX0.out.1)).mono ?_
  rintro e w1 ⟨hb1, he1⟩
  rw [Dg.sg_eq] at he1
  subst he1
  have HX1 := Kept.mk (HX0.out.below hb1)
  clear hb1
  obtain ⟨i0, i1, -, -⟩ := two_cells HX1.out.b0
  obtain ⟨j0, j1, f0, f1⟩ := two_cells HX1.out.b1
  have hsz := HX1.out.l2
  have HE := Kept.mk (int_end (L := 0) (w := w) (z := 0) (s := false) (ao := none) (k := 0) (c := 0) HX1.out.b1 HX1.out.1 (by omega) rfl (zeroInt (L := 0) w1).parts.2)
  go_wp2
  exact bodyPost_ret (v := .tuple #[.agg #[.bool false, .slice none 0 0], .int .i64 0]) (by simp [results, Tryz.results49, go_sem, HE.out.2.1, HE.out.2.2]) rfl ⟨HE.out.1.1, rfl⟩
theorem RetOk.fit {L : Nat} {w : World} {z : Int} {e : Ending} {w' : World} (h : RetOk L w z e w') (hs : smallB z.natAbs = true) : RetOk 625 w z e w' := by
  obtain ⟨hb, s, ao, k, c, he, hI⟩ := h
  exact ⟨hb, s, ao, k, c, he, hI.fit hs⟩
theorem IsRoot.le {z r : Int} (h : IsRoot z r) : r ≤ z := by
  obtain ⟨h0, h1, _⟩ := h
  by_cases e : r = 0
  · subst e; omega
  · have := Int.mul_le_mul_of_nonneg_right (show 1 ≤ r by omega) h0
    omega
/-- Root of what is not negative. -/
theorem root_ok {L : Nat} {v : Value} {z : Int} {w : World} (h : IntV L w v z) (hL : L ≤ 100000000) (hz : 0 ≤ z) (hs : smallB z.natAbs = true) :
    Calls Tryz.prog 49 #[v] w fun e w' => ∃ R, IsRoot z R ∧ RetOk 625 w R e w' := by
  by_cases h0 : z = 0
  · subst h0
    exact (root_zero h).mono fun e w' ⟨hb, he⟩ => ⟨0, ⟨by omega, by omega, by omega⟩, hb, false, none, 0, 0, he, zeroInt _⟩
  · exact (root_any h hL (by omega)).mono fun e w' ⟨R, hR, hk⟩ => ⟨R, hR, hk.fit (small_le hs (by have := hR.le; have := hR.1; omega))⟩
theorem LenIs.le {m n : Int} {d e : Nat} (hm : 0 ≤ m) (hmn : m ≤ n) (h : LenIs m d) (h' : LenIs n e) : d ≤ e := by
  by_cases h0 : m = 0
  · rw [h.zero h0]; exact h'.one
  · apply Classical.byContradiction
    intro hc
    have h1 := h.lo (by omega)
    have h2 := h'.hi
    have h3 := Dg.pow_mono (show (0 : Int) < 10 by omega) (show e ≤ d - 1 by omega)
    omega
theorem decZ_pos {z : Int} (h : 0 ≤ z) : Dg.decZ z = Dg.decN z.natAbs := by
  unfold Dg.decZ
  rw [if_neg (by omega)]
theorem IsRoot.len {z r : Int} (h : IsRoot z r) : (Dg.decN r.natAbs).length ≤ (Dg.decN z.natAbs).length := by
  have h0 := h.1
  have h1 := h.le
  exact LenIs.le (m := (r.natAbs : Int)) (n := (z.natAbs : Int)) (by omega) (by omega) (lenIs_dec _) (lenIs_dec _)
/-- The reference reads what String writes. -/
theorem rparse_back {z : Int} {n : Nat} {w : World} (hl : (Dg.decZ z).length ≤ n) (hn : n ≤ 140737488355328) :
    Calls Tryz.prog 18 #[.string ⟨(Dg.decZ z).toArray⟩] w fun e w' => Below w.heap.size w w' ∧ ∃ v', e = .returned (.tuple #[v', .bool true]) ∧ ZV (n + 1) w' v' z := by
  refine (rparse_any ⟨(Dg.decZ z).toArray⟩ w (by show (Dg.decZ z).toArray.size ≤ _; simp; omega)).mono ?_
  rintro e w' ⟨hb, ⟨z', v', hz', he, hZ⟩ | ⟨hno, _⟩⟩
  · have e1 : Dg.decZ z = Dg.decZ z' := by rw [← hz']
    obtain rfl := Dg.decZ_inj e1
    exact ⟨hb, v', he, hZ.mono (by show (Dg.decZ z).toArray.toList.length + 1 ≤ _; simp; omega)⟩
  · exact absurd (by simp) (hno z)
end Go.Proofs.YtblbheilddafbaaGreatDoor

set_option linter.unusedVariables false
set_option linter.unusedSimpArgs false
/-! Boxes of the reference's integers, within a region that draws its order. -/
namespace Go.Proofs.YtblbheilddafbaaGreatDoor
open Go Go.RowKit
theorem ZV.more {L : Nat} {W : World} {v : Value} {z : Int} (h : ZV L W v z) (o : Obj) : ZV L (W.alloc o) v z := h.below ((Below.refl _ _).alloc (Nat.le_refl _) _)
theorem Hz.lt {W : World} {g : Nat} {x y : Value} (h : Hz W g x y) : g < W.heap.size := (Array.getElem?_eq_some_iff.1 h).1
/-- Block g is a box of the reference's integers that holds nothing yet. -/
def Yb (W : World) (g : Nat) : Prop := W.heap[g]? = some (.cells #[.bool false, .slice none 0 0] 25 (0, 0))
theorem Yb.lt {W : World} {g : Nat} (h : Yb W g) : g < W.heap.size := (Array.getElem?_eq_some_iff.1 h).1
theorem Yb.more {W : World} {g : Nat} (h : Yb W g) (o : Obj) : Yb (W.alloc o) g := (heap_alloc_old W o h.lt).trans h
theorem Yb.drw {W : World} {g : Nat} (h : Yb W g) : Yb W.drew g := h
theorem Yb.below {W W' : World} {g : Nat} (h : Yb W g) (hb : Below W.heap.size W W') : Yb W' g := (hb.block g h.lt).trans h
theorem Yb.new (W : World) (n : Nat) (h : W.heap.size = n) : Yb (W.alloc (.cells #[.bool false, .slice none 0 0] 25)) n := heap_last W _ n h
theorem Yb.cells {W : World} {g : Nat} (h : Yb W g) : W.cell? ⟨g, 0, none⟩ = some (.bool false) ∧ W.cell? ⟨g, 1, none⟩ = some (.slice none 0 0) ∧ W.frozen? ⟨g, 0, none⟩ = false ∧ W.frozen? ⟨g, 1, none⟩ = false := two_cells h
theorem Yb.hz {W : World} {g : Nat} (h : Yb W g) : Hz W g (.bool false) (.slice none 0 0) := h
theorem Hz.two {W : World} {g : Nat} (h : Hz W g (.bool false) (.slice none 0 0)) (u v : Value) : Hz ((W.setCell ⟨g, 0, none⟩ u).setCell ⟨g, 1, none⟩ v) g u v := two_set h u v
/-- W is w3 but for boxes, and new behind w0. -/
def Oky (w0 w3 W : World) : Prop := Below w0.heap.size w0 W ∧ ∀ L v n, NumR L w3 v n → NumR L W v n
theorem Oky.start {w0 w3 : World} (h : Below w0.heap.size w0 w3) : Oky w0 w3 w3 := ⟨h, fun _ _ _ h => h⟩
theorem Oky.alloc {w0 w3 W : World} (h : Oky w0 w3 W) (o : Obj) : Oky w0 w3 (W.alloc o) := ⟨h.1.alloc h.1.size _, fun L v n hn => (h.2 L v n hn).below ((Below.refl _ _).alloc (Nat.le_refl _) _)⟩
theorem Oky.set {w0 w3 W : World} {g : Nat} (h : Oky w0 w3 W) (hg : Hz W g (.bool false) (.slice none 0 0)) (hle : w0.heap.size ≤ g) (u v : Value) : Oky w0 w3 ((W.setCell ⟨g, 0, none⟩ u).setCell ⟨g, 1, none⟩ v) :=
  ⟨(h.1.setCell (p := ⟨g, 0, none⟩) hle _).setCell (p := ⟨g, 1, none⟩) hle _, fun L v' n hn => (h.2 L v' n hn).box hg u v⟩
theorem Oky.num {w0 w3 W : World} (h : Oky w0 w3 W) {L : Nat} {v : Value} {n : Int} (hn : NumR L w3 v n) : NumR L W v n := h.2 L v n hn
theorem Oky.bel {w0 w3 W : World} (h : Oky w0 w3 W) : Below w0.heap.size w0 W := h.1
/-- Block g holds the reference's integer z. -/
def BoxZ (L : Nat) (W : World) (g : Nat) (z : Int) : Prop := ∃ s ao k c, Hz W g (.bool s) (.slice ao k c) ∧ ZV L W (.agg #[.bool s, .slice ao k c]) z
theorem RetZ.four {L : Nat} {w : World} {z : Int} {e : Ending} {w' : World} (h : RetZ L w z e w') : Below w.heap.size w w' ∧ ∃ s ao k c, e = .returned (.agg #[.bool s, .slice ao k c]) ∧ ZV L w' (.agg #[.bool s, .slice ao k c]) z := by
  obtain ⟨hb, v', rfl, s, u, rfl, hs, hn⟩ := h
  obtain ⟨ao, k, c, rfl, _, _⟩ := hn.form
  exact ⟨hb, s, ao, k, c, rfl, _, _, rfl, hs, hn⟩
end Go.Proofs.YtblbheilddafbaaGreatDoor

set_option linter.unusedVariables false
set_option linter.unusedSimpArgs false
namespace Go.Proofs.YtblbheilddafbaaGreatDoor
open Go Go.RowKit
theorem sg_nonpos {a b : Int} (h : a ≤ b) : Dg.sg a b ≤ 0 := by
  unfold Dg.sg
  split
  · omega
  · rw [if_neg (by omega)]; omega
set_option maxRecDepth 20000 in
set_option maxHeartbeats 8000000 in
theorem tallyRoots_any (s : ByteArray) (w : World) (hs : s.size ≤ 140737488355328) :
    Calls Tryz.prog 9 #[.string s] w (RetV w (.bool true)) := by
  have HW : Kept (Below w.heap.size w w) := ⟨Below.refl _ _⟩
  have hnot : ∀ (x : Bool) (w : World), (Op.unary .not (.bool x)).run Tryz.prog w = .ok (.bool (!x)) w := fun _ _ => rfl
  go_enter Tryz.func9, Tryz.ntmps9
  go_wp2_with fail
  refine (whole_any s _ hs).mono ?_
  rintro e w1 ⟨hb1, sa1, ao1, ka1, ca1, sb1, bo1, kb1, cb1, ok1, rfl, hy1⟩
  replace HW := Kept.mk (HW.out.trans (Below.mono hb1 HW.out.size))
  have HY1 := Kept.mk hy1
  clear hb1 hy1
  have hal1 : Below w1.heap.size w1 ((w1.alloc (.cells #[.bool sa1, .slice ao1 ka1 ca1] 30)).alloc (.cells #[.bool sb1, .slice bo1 kb1 cb1] 25)) := ((Below.refl _ _).alloc (Nat.le_refl _) _).alloc (by simp) _
  replace HW := Kept.mk (HW.out.trans (Below.mono hal1 HW.out.size))
  have HBa1 : Kept (Hb ((w1.alloc (.cells #[.bool sa1, .slice ao1 ka1 ca1] 30)).alloc (.cells #[.bool sb1, .slice bo1 kb1 cb1] 25)) w1.heap.size (.bool sa1) (.slice ao1 ka1 ca1)) := ⟨(Hb.new _ _ _ _ rfl).more _⟩
  have HBx1 : Kept (Hz ((w1.alloc (.cells #[.bool sa1, .slice ao1 ka1 ca1] 30)).alloc (.cells #[.bool sb1, .slice bo1 kb1 cb1] 25)) (w1.heap.size + 1) (.bool sb1) (.slice bo1 kb1 cb1)) := ⟨Hz.new _ _ _ _ (by simp)⟩
  have HAL1 := Kept.mk hal1
  clear hal1
  cases ok1
  · skip
    clear HBa1 HBx1 HY1 HAL1
    go_wp2_with fail
    refine (awake_any _).mono ?_
    rintro e w2 ⟨hb2, he2⟩
    subst he2
    replace HW := Kept.mk (HW.out.trans (Below.mono hb2 HW.out.size))
    clear hb2 
    go_wp2
    go_ret
    exact ⟨HW.out, rfl⟩
  · skip
    obtain ⟨z, hz1, hl1, hsm1, hI1, hZ1⟩ := HY1.out rfl
    have HZ1 := Kept.mk hz1
    have HL1 := Kept.mk hl1
    have HSM1 := Kept.mk hsm1
    have HIa := Kept.mk (hI1.below HAL1.out)
    have HIx := Kept.mk (hZ1.below HAL1.out)
    have HBa := HBa1
    have HBx := HBx1
    clear hz1 hl1 hsm1 hI1 hZ1 HBa1 HBx1 HY1 HAL1
    by_cases hz : z < 0
    · skip
      obtain ⟨p3, q3, -, -⟩ := two_cells HBa.out
      go_wp2_with fail
      refine (root_neg HIa.out hz).mono ?_
      rintro e w2 ⟨hb2, rfl⟩
      replace HBa := Kept.mk (HBa.out.below hb2)
      replace HIa := Kept.mk (HIa.out.below hb2)
      replace HBx := Kept.mk (HBx.out.below hb2)
      replace HIx := Kept.mk (HIx.out.below hb2)
      replace HW := Kept.mk (HW.out.trans (Below.mono hb2 HW.out.size))
      clear hb2 p3 q3
      have hI2 : IntV 625 w2 (.agg #[.bool false, .slice none 0 0]) 0 := zeroInt w2
      have hal4 : Below w2.heap.size w2 (w2.alloc (.cells #[.bool false, .slice none 0 0] 30)) := (Below.refl _ _).alloc (Nat.le_refl _) _
      replace HBa := Kept.mk (HBa.out.below hal4)
      replace HIa := Kept.mk (HIa.out.below hal4)
      replace HBx := Kept.mk (HBx.out.below hal4)
      replace HIx := Kept.mk (HIx.out.below hal4)
      replace HW := Kept.mk (HW.out.trans (Below.mono hal4 HW.out.size))
      have HBr : Kept (Hb (w2.alloc (.cells #[.bool false, .slice none 0 0] 30)) w2.heap.size (.bool false) (.slice none 0 0)) := ⟨Hb.new _ _ _ _ rfl⟩
      have HIr : Kept (IntV 625 (w2.alloc (.cells #[.bool false, .slice none 0 0] 30)) (.agg #[.bool false, .slice none 0 0]) 0) := ⟨hI2.below hal4⟩
      clear hal4 hI2
      have HSG := Kept.mk (Dg.sg_lt hz)
      obtain ⟨p6, q6, -, -⟩ := two_cells HBx.out
      go_wp2_with fail
      refine (rsignz_any HIx.out).mono ?_
      rintro e w5 ⟨hb5, he5⟩
      rw [HSG.out] at he5
      subst he5
      replace HBa := Kept.mk (HBa.out.below hb5)
      replace HIa := Kept.mk (HIa.out.below hb5)
      replace HBx := Kept.mk (HBx.out.below hb5)
      replace HIx := Kept.mk (HIx.out.below hb5)
      replace HBr := Kept.mk (HBr.out.below hb5)
      replace HIr := Kept.mk (HIr.out.below hb5)
      replace HW := Kept.mk (HW.out.trans (Below.mono hb5 HW.out.size))
      clear hb5 p6 q6
      obtain ⟨p8, q8, -, -⟩ := two_cells HBr.out
      go_wp2_with fail
      refine (sign_any HIr.out).mono ?_
      rintro e w7 ⟨hb7, he7⟩
      subst he7
      replace HBa := Kept.mk (HBa.out.below hb7)
      replace HIa := Kept.mk (HIa.out.below hb7)
      replace HBx := Kept.mk (HBx.out.below hb7)
      replace HIx := Kept.mk (HIx.out.below hb7)
      replace HBr := Kept.mk (HBr.out.below hb7)
      replace HIr := Kept.mk (HIr.out.below hb7)
      replace HW := Kept.mk (HW.out.trans (Below.mono hb7 HW.out.size))
      clear hb7 p8 q8
      go_wp2_with fail
      refine (awake_any _).mono ?_
      rintro e w9 ⟨hb9, he9⟩
      subst he9
      replace HBa := Kept.mk (HBa.out.below hb9)
      replace HIa := Kept.mk (HIa.out.below hb9)
      replace HBx := Kept.mk (HBx.out.below hb9)
      replace HIx := Kept.mk (HIx.out.below hb9)
      replace HBr := Kept.mk (HBr.out.below hb9)
      replace HIr := Kept.mk (HIr.out.below hb9)
      replace HW := Kept.mk (HW.out.trans (Below.mono hb9 HW.out.size))
      clear hb9 
      go_wp2
      go_ret
      exact ⟨HW.out, rfl⟩
    · skip
      have hz0 : 0 ≤ z := by omega
      clear hz
      obtain ⟨p3, q3, -, -⟩ := two_cells HBa.out
      go_wp2_with fail
      refine (root_ok HIa.out (by decide) hz0 HSM1.out).mono ?_
      rintro e w2 ⟨r, hroot, hb2, s2, o2, k2, c2, rfl, hI2⟩
      have HRT := Kept.mk hroot
      replace HBa := Kept.mk (HBa.out.below hb2)
      replace HIa := Kept.mk (HIa.out.below hb2)
      replace HBx := Kept.mk (HBx.out.below hb2)
      replace HIx := Kept.mk (HIx.out.below hb2)
      replace HW := Kept.mk (HW.out.trans (Below.mono hb2 HW.out.size))
      clear hroot hb2 p3 q3
      have hal4 : Below w2.heap.size w2 (w2.alloc (.cells #[.bool s2, .slice o2 k2 c2] 30)) := (Below.refl _ _).alloc (Nat.le_refl _) _
      replace HBa := Kept.mk (HBa.out.below hal4)
      replace HIa := Kept.mk (HIa.out.below hal4)
      replace HBx := Kept.mk (HBx.out.below hal4)
      replace HIx := Kept.mk (HIx.out.below hal4)
      replace HW := Kept.mk (HW.out.trans (Below.mono hal4 HW.out.size))
      have HBr : Kept (Hb (w2.alloc (.cells #[.bool s2, .slice o2 k2 c2] 30)) w2.heap.size (.bool s2) (.slice o2 k2 c2)) := ⟨Hb.new _ _ _ _ rfl⟩
      have HIr : Kept (IntV 625 (w2.alloc (.cells #[.bool s2, .slice o2 k2 c2] 30)) (.agg #[.bool s2, .slice o2 k2 c2]) r) := ⟨hI2.below hal4⟩
      clear hal4 hI2
      obtain ⟨σx, hσx⟩ : ∃ σ, Dg.sg z 0 = σ := ⟨_, rfl⟩
      have hσx0 : 0 ≤ σx := by rw [← hσx]; exact sg_nonneg2 hz0
      have HSGX := Kept.mk hσx
      clear hσx
      obtain ⟨p6, q6, -, -⟩ := two_cells HBx.out
      go_wp2_with fail
      refine (rsignz_any HIx.out).mono ?_
      rintro e w5 ⟨hb5, he5⟩
      rw [HSGX.out] at he5
      subst he5
      replace HBa := Kept.mk (HBa.out.below hb5)
      replace HIa := Kept.mk (HIa.out.below hb5)
      replace HBx := Kept.mk (HBx.out.below hb5)
      replace HIx := Kept.mk (HIx.out.below hb5)
      replace HBr := Kept.mk (HBr.out.below hb5)
      replace HIr := Kept.mk (HIr.out.below hb5)
      replace HW := Kept.mk (HW.out.trans (Below.mono hb5 HW.out.size))
      clear hb5 p6 q6
      have HLR : Kept ((Dg.decZ r).length ≤ 700) := ⟨by
        have h1 := HL1.out
        have h2 := HRT.out.len
        rw [HZ1.out, decZ_pos hz0] at h1
        rw [decZ_pos HRT.out.1]
        omega⟩
      obtain ⟨p8, q8, -, -⟩ := two_cells HBr.out
      go_wp2_with fail
      refine (string_any HIr.out (by decide)).mono ?_
      rintro e w7 ⟨hb7, he7⟩
      subst he7
      replace HBa := Kept.mk (HBa.out.below hb7)
      replace HIa := Kept.mk (HIa.out.below hb7)
      replace HBx := Kept.mk (HBx.out.below hb7)
      replace HIx := Kept.mk (HIx.out.below hb7)
      replace HBr := Kept.mk (HBr.out.below hb7)
      replace HIr := Kept.mk (HIr.out.below hb7)
      replace HW := Kept.mk (HW.out.trans (Below.mono hb7 HW.out.size))
      clear hb7 p8 q8
      unfold str
      go_wp2_with fail
      refine (rparse_back HLR.out (by decide)).mono ?_
      rintro e w9 ⟨hb9, v9, rfl, hZ9⟩
      obtain ⟨s9, u9, rfl, hs9, hn9⟩ := hZ9
      obtain ⟨o9, k9, c9, rfl, _, _⟩ := hn9.form
      have hJ : ZV 701 w9 (.agg #[.bool s9, .slice o9 k9 c9]) r := ⟨_, _, rfl, hs9, hn9⟩
      replace HBa := Kept.mk (HBa.out.below hb9)
      replace HIa := Kept.mk (HIa.out.below hb9)
      replace HBx := Kept.mk (HBx.out.below hb9)
      replace HIx := Kept.mk (HIx.out.below hb9)
      replace HBr := Kept.mk (HBr.out.below hb9)
      replace HIr := Kept.mk (HIr.out.below hb9)
      replace HW := Kept.mk (HW.out.trans (Below.mono hb9 HW.out.size))
      clear hb9 hs9 hn9
      have hal10 : Below w9.heap.size w9 (w9.alloc (.cells #[.bool s9, .slice o9 k9 c9] 25)) := (Below.refl _ _).alloc (Nat.le_refl _) _
      replace HBa := Kept.mk (HBa.out.below hal10)
      replace HIa := Kept.mk (HIa.out.below hal10)
      replace HBx := Kept.mk (HBx.out.below hal10)
      replace HIx := Kept.mk (HIx.out.below hal10)
      replace HBr := Kept.mk (HBr.out.below hal10)
      replace HIr := Kept.mk (HIr.out.below hal10)
      replace HW := Kept.mk (HW.out.trans (Below.mono hal10 HW.out.size))
      have HBq : Kept (Hz (w9.alloc (.cells #[.bool s9, .slice o9 k9 c9] 25)) w9.heap.size (.bool s9) (.slice o9 k9 c9)) := ⟨Hz.new _ _ _ _ rfl⟩
      have HIq := Kept.mk (hJ.below hal10)
      clear hal10 hJ
      clear HIr HBr HIa HBa HLR
      obtain ⟨σ, hσ⟩ : ∃ σ, Dg.sg r 0 = σ := ⟨_, rfl⟩
      have hσ0 : 0 ≤ σ := by rw [← hσ]; exact sg_nonneg2 HRT.out.1
      have HSGQ := Kept.mk hσ
      obtain ⟨dq, hdq⟩ : ∃ d, (Dg.decN r.natAbs).length = d := ⟨_, rfl⟩
      obtain ⟨dx, hdx⟩ : ∃ d, (Dg.decN z.natAbs).length = d := ⟨_, rfl⟩
      have hdd : dq ≤ dx := by rw [← hdq, ← hdx]; exact HRT.out.len
      have HDQ := Kept.mk hdq
      have HDX := Kept.mk hdx
      clear hσ hdq hdx
      have hds : decide (σ < (0 : Int)) = false := decide_eq_false (by omega)
      have hdt : decide ((dx : Int) < (dq : Int)) = false := decide_eq_false (by omega)
      go_wp2_with fail
      generalize w9.alloc (.cells #[.bool s9, .slice o9 k9 c9] 25) = W9 at *
      have HSq : Kept (∀ W, Below W9.heap.size W9 W → Calls Tryz.prog 26 #[(.agg #[.bool s9, .slice o9 k9 c9])] W (RetV W (.int .i64 σ))) := ⟨fun W h => by have hc := rsignz_any (HIq.out.below h); rw [HSGQ.out] at hc; exact hc⟩
      have HLq : Kept (∀ W, Below W9.heap.size W9 W → Calls Tryz.prog 47 #[.slice o9 k9 c9] W (RetV W (.int .i64 (dq : Int)))) := ⟨fun W h => (rlen_any (n := r.natAbs) (HIq.out.below h).parts.2 (by decide)).mono fun e w' ⟨he, hw⟩ => ⟨hw ▸ Below.refl _ _, by rw [he, HDQ.out]⟩⟩
      have HLx : Kept (∀ W, Below W9.heap.size W9 W → Calls Tryz.prog 47 #[.slice bo1 kb1 cb1] W (RetV W (.int .i64 (dx : Int)))) := ⟨fun W h => (rlen_any (n := z.natAbs) (HIx.out.below h).parts.2 (by decide)).mono fun e w' ⟨he, hw⟩ => ⟨hw ▸ Below.refl _ _, by rw [he, HDX.out]⟩⟩
      obtain ⟨i0q, i1q, -, -⟩ := two_cells HBq.out
      obtain ⟨i0x, i1x, -, -⟩ := two_cells HBx.out
      go_region_held3 (fun w' => w'.cell? ⟨w9.heap.size, 0, none⟩ = some (.bool s9) ∧ w'.cell? ⟨w9.heap.size, 1, none⟩ = some (.slice o9 k9 c9) ∧ w'.cell? ⟨(w1.heap.size + 1), 0, none⟩ = some (.bool sb1) ∧ w'.cell? ⟨(w1.heap.size + 1), 1, none⟩ = some (.slice bo1 kb1 cb1))
        (first | exact ⟨l0q, l1q, l0x, l1x⟩ | exact ⟨k0q, k1q, k0x, k1x⟩ | exact ⟨j0q, j1q, j0x, j1x⟩ | exact ⟨i0q, i1q, i0x, i1x⟩ | go_keep)
        ((first
          | (go_at_call 26; (with_reducible refine (HSq.out _ ?h1).mono ?_); (case h1 => exact ((Bxs.start W9).drew).1); rintro e w1' ⟨hb1, rfl⟩; have hy1 := Bxs.below ((Bxs.start W9).drew) hb1; obtain ⟨j0q, j1q, -, -⟩ := two_cells (HBq.out.below hy1.1); obtain ⟨j0x, j1x, -, -⟩ := two_cells (HBx.out.below hy1.1))
          | (go_at_call 47; (with_reducible refine (HLq.out _ ?h1).mono ?_); (case h1 => exact hy1.1); rintro e w2' ⟨hb2, rfl⟩; have hy2 := Bxs.below hy1 hb2; obtain ⟨k0q, k1q, -, -⟩ := two_cells (HBq.out.below hy2.1); obtain ⟨k0x, k1x, -, -⟩ := two_cells (HBx.out.below hy2.1))
          | (go_at_call 47; (with_reducible refine (HLx.out _ ?h1).mono ?_); (case h1 => exact hy2.1); rintro e w3' ⟨hb3, rfl⟩; have hy3 := Bxs.below hy2 hb3; obtain ⟨l0q, l1q, -, -⟩ := two_cells (HBq.out.below hy3.1); obtain ⟨l0x, l1x, -, -⟩ := two_cells (HBx.out.below hy3.1))))
      have hbf := hy3.1
      replace HBx := Kept.mk (HBx.out.below hbf)
      replace HIx := Kept.mk (HIx.out.below hbf)
      replace HBq := Kept.mk (HBq.out.below hbf)
      replace HIq := Kept.mk (HIq.out.below hbf)
      replace HW := Kept.mk (HW.out.trans (Below.mono hbf HW.out.size))
      clear hbf HSq HLq HLx hy1 hb1 hy2 hb2 hy3 hb3
      clear i0q i0x i1q i1x j0q j0x j1q j1x k0q k0x k1q k1x l0q l0x l1q l1x
      have hop : ∀ W v, ZV 701 W (.agg #[.bool s9, .slice o9 k9 c9]) r → ZV 64 W v 1 → Calls Tryz.prog 41 #[(.agg #[.bool s9, .slice o9 k9 c9]), v] W (fun e w' => Below W.heap.size W w' ∧ ∃ s ao k c, e = .returned (.agg #[.bool s, .slice ao k c]) ∧ ZV 702 w' (.agg #[.bool s, .slice ao k c]) (r + 1)) := fun W v h h' => (raddz_any h h' (by decide) (by decide)).mono fun e w' hR => hR.four
      have HOP := Kept.mk hop
      clear hop
      go_upto_region 10 with fail
      have hgx : w9.heap.size < w3'.heap.size := HBq.out.lt
      have hne1 : ¬ w9.heap.size = w3'.heap.size := by omega
      have hne2 : ¬ w3'.heap.size = w9.heap.size := by omega
      go_cut [9] (fun p wx => ∃ g : Nat, p = .pointer (some ⟨g, 0, none⟩) ∧ BoxZ 702 wx g (r + 1) ∧ Below w3'.heap.size w3' wx)
      case first =>
        obtain ⟨j0, j1, -, -⟩ := two_cells HBq.out
        go_region_held3 (fun w' => w'.cell? ⟨w9.heap.size, 0, none⟩ = some (.bool s9) ∧ w'.cell? ⟨w9.heap.size, 1, none⟩ = some (.slice o9 k9 c9))
          (first | exact ⟨l0, l1⟩ | exact ⟨k0', k1'⟩ | exact ⟨j0, j1⟩ | (refine ⟨?_, ?_⟩ <;> simp [go_sem, l0, l1, n1, n2, m1, m2, hne1, hne2]; done) | (refine ⟨?_, ?_⟩ <;> simp [go_sem, k0', k1', n1, n2, hne1, hne2]; done) | (refine ⟨?_, ?_⟩ <;> simp [go_sem, j0, j1, hne1, hne2]; done) | go_keep)
          ((first
            | (go_at_call 32; refine (rof_any 1 _ (by decide) (by decide)).mono ?_; rintro e wA ⟨hbA, vA, rfl, hIA⟩; have hyA : Bxs w3' [] wA := Bxs.below (by repeat (first | (with_reducible exact Bxs.start w3') | (with_reducible refine Bxs.drew ?_) | (with_reducible refine Bxs.more ?_ _))) hbA; obtain ⟨k0', k1', _⟩ := two_cells (HBq.out.below hyA.1); have hlA := hyA.1.size; have n1 : ¬ w9.heap.size = wA.heap.size := (by omega); have n2 : ¬ wA.heap.size = w9.heap.size := (by omega); (try ((have za : Yb wA (w3'.heap.size) := ?hzz); (case hzz => ((refine Yb.below ?_ hbA); (repeat (first | (with_reducible assumption) | ((with_reducible refine Yb.new _ _ ?_); simp; done) | (with_reducible refine Yb.drw ?_) | (with_reducible refine Yb.more ?_ _))); done)); obtain ⟨za0, za1, za2, za3⟩ := za.cells; have zal := za.lt)); clear hbA)
            | (go_at_call 41; (with_reducible refine (HOP.out _ _ ?h1 ?h2).mono ?_); (case h1 => exact HIq.out.below (show Bxs w3' [] _ from (by repeat (first | (with_reducible exact hyA) | (with_reducible refine Bxs.drew ?_) | (with_reducible refine Bxs.more ?_ _)))).1); (case h2 => repeat (first | (with_reducible exact hIA) | (with_reducible refine ZV.more ?_ _))); rintro e wB ⟨hbB, sB, oB, kB, cB, rfl, hIB⟩; have hyB : Bxs w3' [] wB := Bxs.below (by repeat (first | (with_reducible exact hyA) | (with_reducible refine Bxs.drew ?_) | (with_reducible refine Bxs.more ?_ _))) hbB; obtain ⟨l0, l1, _⟩ := two_cells (HBq.out.below hyB.1); have hlB := hyB.1.size; have hlAB : wA.heap.size ≤ wB.heap.size := (by have := hbB.size; (try simp at this); omega); obtain ⟨hsB, hnB⟩ := hIB.parts; have HSB := Kept.mk hsB; clear hsB hIB; have m1 : ¬ w9.heap.size = wB.heap.size := (by omega); have m2 : ¬ wB.heap.size = w9.heap.size := (by omega); (try ((have zc : Yb wB (w3'.heap.size) := ?hzz); (case hzz => ((refine Yb.below ?_ hbB); (repeat (first | (with_reducible assumption) | ((with_reducible refine Yb.new _ _ ?_); simp; done) | (with_reducible refine Yb.drw ?_) | (with_reducible refine Yb.more ?_ _))); done)); obtain ⟨zc0, zc1, zc2, zc3⟩ := zc.cells; have zcl := zc.lt)); (try ((have ze : Yb wB (wA.heap.size) := ?hzz); (case hzz => ((refine Yb.below ?_ hbB); (repeat (first | (with_reducible assumption) | ((with_reducible refine Yb.new _ _ ?_); simp; done) | (with_reducible refine Yb.drw ?_) | (with_reducible refine Yb.more ?_ _))); done)); obtain ⟨ze0, ze1, ze2, ze3⟩ := ze.cells; have zel := ze.lt)); clear hbB k0' k1'; (try clear za0 za1 za2 za3))))
        all_goals
          (go_wp2_with fail
           go_meet
           have hbwB : Below w3'.heap.size w3' wB := hyB.1
           refine ⟨_, rfl, ⟨sB, oB, kB, cB, ?_, ⟨_, _, rfl, HSB.out, Oky.num (w0 := w3') ?_ hnB⟩⟩, Oky.bel (w3 := wB) ?_⟩
           all_goals (try (repeat (any_goals (first | (with_reducible exact Oky.start hbwB) | (with_reducible refine Oky.alloc ?_ _) | (with_reducible refine Oky.set ?_ ?_ ?_ _ _)))))
           all_goals (first | omega | (repeat (first | ((with_reducible refine Yb.hz ?_); (with_reducible assumption)) | ((with_reducible refine Hz.new _ _ _ _ ?_); simp; done) | (with_reducible refine Hz.two ?_ _ _) | (with_reducible refine Hz.more ?_ _)))))
      case rest =>
        obtain ⟨g11, rfl, ⟨s11, o11, k11, c11, hg11, hI11⟩, hbw⟩ := hcut
        replace HBx := Kept.mk (HBx.out.below hbw)
        replace HIx := Kept.mk (HIx.out.below hbw)
        replace HBq := Kept.mk (HBq.out.below hbw)
        replace HIq := Kept.mk (HIq.out.below hbw)
        replace HW := Kept.mk (HW.out.trans (Below.mono hbw HW.out.size))
        have HBn := Kept.mk hg11
        have HIn := Kept.mk hI11
        clear hbw hg11 hI11 HOP hgx hne1 hne2
        obtain ⟨τ, hτ⟩ : ∃ τ, Dg.sg (r * r) z = τ := ⟨_, rfl⟩
        have hτ0 : τ ≤ 0 := by rw [← hτ]; exact sg_nonpos HRT.out.2.1
        have HE1 : Kept (Dg.sg ((r + 1) * (r + 1)) z = 1) := ⟨Dg.sg_gt HRT.out.2.2⟩
        have HT := Kept.mk hτ
        clear hτ
        have hdu : decide (τ ≤ (0 : Int)) = true := decide_eq_true hτ0
        go_wp2_with fail
        have HMq : Kept (∀ W, Below wc.heap.size wc W → Calls Tryz.prog 43 #[(.agg #[.bool s9, .slice o9 k9 c9]), (.agg #[.bool s9, .slice o9 k9 c9])] W (RetZ 1402 W (r * r))) := ⟨fun W h => rmulz_any (HIq.out.below h) (HIq.out.below h) (by decide) (by decide)⟩
        have HMn : Kept (∀ W, Below wc.heap.size wc W → Calls Tryz.prog 43 #[(.agg #[.bool s11, .slice o11 k11 c11]), (.agg #[.bool s11, .slice o11 k11 c11])] W (RetZ 1404 W ((r + 1) * (r + 1)))) := ⟨fun W h => rmulz_any (HIn.out.below h) (HIn.out.below h) (by decide) (by decide)⟩
        have HCq : Kept (∀ W v, Below wc.heap.size wc W → ZV 1402 W v (r * r) → Calls Tryz.prog 35 #[v, (.agg #[.bool sb1, .slice bo1 kb1 cb1])] W (RetV W (.int .i64 τ))) := ⟨fun W v h hv => by have hc := rcmpz_any hv (HIx.out.below h) (by decide) (by decide); rw [HT.out] at hc; exact hc⟩
        have HCn : Kept (∀ W v, Below wc.heap.size wc W → ZV 1404 W v ((r + 1) * (r + 1)) → Calls Tryz.prog 35 #[v, (.agg #[.bool sb1, .slice bo1 kb1 cb1])] W (RetV W (.int .i64 1))) := ⟨fun W v h hv => by have hc := rcmpz_any hv (HIx.out.below h) (by decide) (by decide); rw [HE1.out] at hc; exact hc⟩
        obtain ⟨i0q, i1q, -, -⟩ := two_cells HBq.out
        obtain ⟨i0n, i1n, -, -⟩ := two_cells HBn.out
        obtain ⟨i0x, i1x, -, -⟩ := two_cells HBx.out
        go_region_held3 (fun w' => w'.cell? ⟨w9.heap.size, 0, none⟩ = some (.bool s9) ∧ w'.cell? ⟨w9.heap.size, 1, none⟩ = some (.slice o9 k9 c9) ∧ w'.cell? ⟨g11, 0, none⟩ = some (.bool s11) ∧ w'.cell? ⟨g11, 1, none⟩ = some (.slice o11 k11 c11) ∧ w'.cell? ⟨(w1.heap.size + 1), 0, none⟩ = some (.bool sb1) ∧ w'.cell? ⟨(w1.heap.size + 1), 1, none⟩ = some (.slice bo1 kb1 cb1))
          (first | exact ⟨n0q, n1q, n0n, n1n, n0x, n1x⟩ | exact ⟨m0q, m1q, m0n, m1n, m0x, m1x⟩ | exact ⟨l0q, l1q, l0n, l1n, l0x, l1x⟩ | exact ⟨k0q, k1q, k0n, k1n, k0x, k1x⟩ | exact ⟨j0q, j1q, j0n, j1n, j0x, j1x⟩ | exact ⟨i0q, i1q, i0n, i1n, i0x, i1x⟩ | go_keep)
          ((first
            | (go_at_call 43; (with_reducible refine (HMq.out _ ?h1).mono ?_); (case h1 => exact ((Bxs.start wc).drew).1); rintro e w1' ⟨hb1, v1', rfl, hV1⟩; have hy1 := Bxs.below ((Bxs.start wc).drew) hb1; obtain ⟨j0q, j1q, -, -⟩ := two_cells (HBq.out.below hy1.1); obtain ⟨j0n, j1n, -, -⟩ := two_cells (HBn.out.below hy1.1); obtain ⟨j0x, j1x, -, -⟩ := two_cells (HBx.out.below hy1.1))
            | (go_at_call 35; (with_reducible refine (HCq.out _ _ ?h1 ?h2).mono ?_); (case h1 => exact hy1.1); (case h2 => exact hV1); rintro e w2' ⟨hb2, rfl⟩; have hy2 := Bxs.below hy1 hb2; obtain ⟨k0q, k1q, -, -⟩ := two_cells (HBq.out.below hy2.1); obtain ⟨k0n, k1n, -, -⟩ := two_cells (HBn.out.below hy2.1); obtain ⟨k0x, k1x, -, -⟩ := two_cells (HBx.out.below hy2.1))
            | (go_at_call 43; (with_reducible refine (HMn.out _ ?h1).mono ?_); (case h1 => exact hy2.1); rintro e w3' ⟨hb3, v3', rfl, hV3⟩; have hy3 := Bxs.below hy2 hb3; obtain ⟨l0q, l1q, -, -⟩ := two_cells (HBq.out.below hy3.1); obtain ⟨l0n, l1n, -, -⟩ := two_cells (HBn.out.below hy3.1); obtain ⟨l0x, l1x, -, -⟩ := two_cells (HBx.out.below hy3.1))
            | (go_at_call 35; (with_reducible refine (HCn.out _ _ ?h1 ?h2).mono ?_); (case h1 => exact hy3.1); (case h2 => exact hV3); rintro e w4' ⟨hb4, rfl⟩; have hy4 := Bxs.below hy3 hb4; obtain ⟨m0q, m1q, -, -⟩ := two_cells (HBq.out.below hy4.1); obtain ⟨m0n, m1n, -, -⟩ := two_cells (HBn.out.below hy4.1); obtain ⟨m0x, m1x, -, -⟩ := two_cells (HBx.out.below hy4.1))
            | (go_at_call 21; refine (awake_any _).mono ?_; rintro e w5' ⟨hb5, rfl⟩; have hy5 := Bxs.below hy4 hb5; obtain ⟨n0q, n1q, -, -⟩ := two_cells (HBq.out.below hy5.1); obtain ⟨n0n, n1n, -, -⟩ := two_cells (HBn.out.below hy5.1); obtain ⟨n0x, n1x, -, -⟩ := two_cells (HBx.out.below hy5.1))))
        have hfin : Below w.heap.size w w5' := HW.out.trans (hy5.1.mono HW.out.size)
        have HFIN := Kept.mk hfin
        go_wp2
        go_ret
        exact ⟨HFIN.out, rfl⟩
end Go.Proofs.YtblbheilddafbaaGreatDoor

set_option linter.unusedVariables false
namespace Go.Proofs.YtblbheilddafbaaGreatDoor.tallyRoots
open Go Go.ChangeShapes Go.WideShapes Go.ChangeAt Go.RowKit Go.Proofs.YtblbheilddafbaaGreatDoor
open Go.ChangeMaps (open_string shut_string)
set_option maxRecDepth 100000 in
theorem contract (H : Type) (enc : TypeId × Value → H) (W : World) (base : Nat) (args : Array Value) (ds gs : List (DataW H)) (before : List MemPlace)
    (hval : ∀ (j : Nat) t v, Tryz.f9.params[j]? = some t → args[j]? = some v → Value.okWide Tryz.prog W .any base t v)
    (hW : DataW.Whole enc Tryz.prog Tryz.f9.params.toList Rows.tallyRootsSpec.vars false W args.toList ds gs before) (ts : List TypeId) (hsz : (DataW.weightsEach Tryz.prog (Tryz.f9.params.toList ++ ts) (ds ++ gs)).all (· ≤ reachBytes) = true) :
    Calls Tryz.prog 9 args W fun e W' => ∃ v, e = .returned v ∧ Rows.tallyRootsSpec.post enc Tryz.prog Tryz.f9 false true false false W args v W' := by
  have hW' := hW
  obtain ⟨p, q, hA0, hV, rfl, hfz, hnd⟩ := hW
  have hA : DataW.TrodAll enc Tryz.prog W 0 (fun _ => true) true Tryz.f9.params.toList args.toList ds p := hA0
  rw [Tryz.params9] at hA hval hsz
  obtain ⟨v0, vs0, d0, ds0, p0, q0, hargs, rfl, rfl, h0, r0⟩ := trodAll_cons hA
  obtain ⟨rfl, rfl, rfl⟩ := trodAll_nil r0
  obtain rfl : args = #[v0] := Array.toList_inj.1 hargs
  obtain ⟨rfl, rfl⟩ := trodVars_none hV
  obtain ⟨a0, rfl, rfl, rfl, w0⟩ := open_string Tryz.underlying9 (hval 0 9 v0 rfl rfl) h0
  clear hA0
  simp only [List.append_nil] at hW'
  have hr0 : a0.size ≤ 140737488355328 := by
    have h := sized_string hsz (j := 0) (t := 9) (bytes := a0.data.toList) rfl rfl
    have hl : a0.data.toList.length = a0.size := Array.length_toList
    have hq := reachBytes_lt
    omega
  refine (tallyRoots_any a0 W hr0).mono fun e W' ⟨hb, he⟩ => ?_
  subst he
  exact ⟨_, rfl, post_of_below (pa := []) (pv := []) hW' (fun _ _ _ => trodAll_cons_mk (shut_bool Tryz.underlying4 _) trodAll_mk0) (fun _ _ => trodAll_cons_mk (shut_string Tryz.underlying9 w0) trodAll_mk0) (fun _ _ => rfl) rfl
    hb (ok_one (by kernel_rfl) rfl (okWide_bool_mk Tryz.underlying4 _))⟩
end Go.Proofs.YtblbheilddafbaaGreatDoor.tallyRoots
