/-
  Texts of the proof, merged by program: TRdn TRgn TZqg Rig.
-/
import Derived.Test.YtfhhnfpapgfnmaaGreatV23
import Derived.Deep.LoopGhost
import Derived.Test.YtfhhnfpapgfnmaaGreatV6
import Derived.Test.YtfhhnfpapgfnmaaGreatV10
import Derived.Test.YtfhhnfpapgfnmaaGreatV21
import Derived.Test.YtfhhnfpapgfnmaaGreatV13
set_option linter.unusedVariables false
set_option linter.unusedSimpArgs false
namespace Go.Proofs.YtfhhnfpapgfnmaaGreat
open Go Go.RowKit
theorem sg_nonneg3 {a b : Int} (h : b ≤ a) : 0 ≤ Dg.sg a b := by
  unfold Dg.sg
  rw [if_neg (by omega)]
  split <;> omega
theorem NumR.zero (L : Nat) (w : World) : NumR L w (.slice none 0 0) 0 := ⟨[], Sl.nil _ _, Dg.Wf.nil _, Dg.Nz.nil, rfl, Nat.zero_le _⟩
/-- The highest limb of a number that is not 0. -/
theorem top_pos {ys : List Int} (hw : Dg.Wf BN ys) (hz : Dg.Nz ys) (h0 : 0 < ys.length) : 0 < ys[ys.length - 1]?.getD 0 ∧ ys[ys.length - 1]?.getD 0 < 1000000000 := by
  have hb := Dg.Wf.getD (show (0 : Int) < BN by decide) hw (ys.length - 1)
  have h1 := hz (List.length_pos_iff.1 h0)
  rw [List.getLast_eq_getElem] at h1
  have h4 : ys.length - 1 < ys.length := by omega
  have e : ys[ys.length - 1]?.getD 0 = ys[ys.length - 1] := by simp [h4]
  have h2 : ys[ys.length - 1]?.getD 0 < 1000000000 := hb.2
  have h3 := hb.1
  omega
theorem drop_at2 {xs : List Int} {k : Nat} {x : Int} (hk : k < xs.length) (hx : x = xs[k]?.getD 0) : Dg.val BN (xs.drop k) = x + 1000000000 * Dg.val BN (xs.drop (k + 1)) := by
  have e : xs.drop k = x :: xs.drop (k + 1) := by
    rw [List.drop_eq_getElem_cons hk, hx]
    simp [hk]
  rw [e, Dg.val_cons]
theorem drop_last {ys : List Int} (h0 : 0 < ys.length) : Dg.val BN (ys.drop (ys.length - 1)) = ys[ys.length - 1]?.getD 0 := by
  rw [drop_at2 (show ys.length - 1 < ys.length by omega) rfl, show ys.length - 1 + 1 = ys.length by omega, List.drop_length]
  show _ + 1000000000 * 0 = _
  omega
theorem scale_bounds {x D : Int} (hx0 : 0 < x) (hx1 : x < 1000000000) (hD : 1000000000 / (x + 1) = D) : 1 ≤ D ∧ D ≤ 1000000000 := by
  rw [← hD]
  have h1 := Int.ediv_mul_le 1000000000 (show x + 1 ≠ 0 by omega)
  refine ⟨(Int.le_ediv_iff_mul_le (by omega)).2 (by omega), Int.ediv_le_self _ (by omega)⟩
set_option maxRecDepth 20000 in
set_option maxHeartbeats 8000000 in
theorem rdivn_num {La Lb : Nat} {va vb : Value} {m n : Int} {w : World} (ha : NumR La w va m) (hb : NumR Lb w vb n) (hn : 0 < n) (h1 : La ≤ 16000000000000) (h2 : Lb ≤ 16000000000000) :
    Calls Tryz.prog 50 #[va, vb] w fun e w' => ∃ q r, e = .returned (.tuple #[q, r]) ∧ Below w.heap.size w w' ∧ NumR La w' q (m / n) ∧ NumR Lb w' r (m % n) := by
  have HA := TKept.mk ha
  have HB := TKept.mk hb
  have hm0 := ha.lt.1
  obtain ⟨ao, ka, ca, rfl, _, _⟩ := ha.form
  obtain ⟨ys0, b1, b2, b3, b4, b5⟩ := hb
  have hp0 : 0 < ys0.length := List.length_pos_iff.2 (fun e => by rw [e] at b4; simp [Dg.val] at b4; omega)
  obtain ⟨x0, hx0⟩ : ∃ x0, x0 = ys0[ys0.length - 1]?.getD 0 := ⟨_, rfl⟩
  have htp := top_pos b2 b3 hp0
  rw [← hx0] at htp
  obtain ⟨ht0, ht1⟩ := htp
  obtain ⟨bo, bcap, rfl, hbc, hbm, hbx⟩ := b1
  unfold maxLen at hbm
  obtain ⟨bb, bof, rfl, hbs, hcell⟩ := hbx (ys0.length - 1) (by omega)
  rw [← hx0] at hcell
  obtain ⟨D, hD⟩ : ∃ D, (1000000000 : Int) / (x0 + 1) = D := ⟨_, rfl⟩
  obtain ⟨hD0, hD1⟩ := scale_bounds ht0 ht1 hD
  have HD := TKept.mk hD
  have hLb : ys0.length ≤ Lb := b5
  clear hD b2 b3 b4 b5 hbx ha hx0
  go_enter Tryz.func50, Tryz.ntmps50
  go_wp2_with fail
  rw [HD.out]
  refine (rtimes_num HA.out (by omega) hD1 (by omega)).mono ?_
  rintro e w1 ⟨hb1, v1, rfl, hX1⟩
  have HB1 := TKept.mk hb1
  have HX1 := TKept.mk hX1
  clear hb1 hX1
  go_wp2_with fail
  refine (rtimes_num (HB.out.below HB1.out) (by omega) hD1 (by omega)).mono ?_
  rintro e w2 ⟨hb2, v2, rfl, hY2⟩
  have HB2 := TKept.mk (HB1.out.trans (hb2.mono HB1.out.size))
  have hX2 := HX1.out.below hb2
  obtain ⟨NY, hNY⟩ : ∃ NY, n * D = NY := ⟨_, rfl⟩
  have hNYp : 0 < NY := by rw [← hNY]; exact Int.mul_pos hn (by omega)
  rw [hNY] at hY2
  have HYN := TKept.mk hY2
  obtain ⟨X, x1, x2, x3, x4, x5⟩ := hX2
  obtain ⟨Y, y1, y2, y3, y4, y5⟩ := hY2
  have hYp : 0 < Y.length := List.length_pos_iff.2 (fun e => by rw [e] at y4; simp [Dg.val] at y4; omega)
  obtain ⟨yt, hyt⟩ : ∃ yt, yt = Y[Y.length - 1]?.getD 0 := ⟨_, rfl⟩
  have htp := top_pos y2 y3 hYp
  have hdl := drop_last hYp
  rw [← hyt] at htp hdl
  obtain ⟨hyt0, hyt1⟩ := htp
  obtain ⟨xo, xc, rfl, hxc, hxm, hxx⟩ := x1
  obtain ⟨yo, yc, rfl, hyc, hym, hyx⟩ := y1
  unfold maxLen at hxm hym
  obtain ⟨yb, yof, rfl, hys, hycell⟩ := hyx (Y.length - 1) (by omega)
  rw [← hyt] at hycell
  have HYT : TKept (NY < (yt + 1) * BN ^ (Y.length - 1)) := ⟨by have h := (dn_top y2 (Y.length - 1)).2; rw [hdl, y4] at h; exact h⟩
  have HYL : TKept (NY < BN ^ Y.length) := ⟨by rw [← y4]; exact Dg.val_lt (by decide) y2⟩
  have HYG : TKept (BN ^ (Y.length - 1) ≤ NY) := ⟨by rw [← y4]; exact Dg.val_ge (by decide) y2 y3 (List.length_pos_iff.1 hYp)⟩
  have HYN' : TKept (NumR Y.length w2 (.slice (some ⟨yb, yof, none⟩) Y.length yc) NY) := ⟨HYN.out.up HYL.out⟩
  have HXX := TKept.mk hxx
  have HXW := TKept.mk x2
  have HXV := TKept.mk x4
  have HNY := TKept.mk hNY
  clear hb2 hyx y2 y3 y4 hyt hdl hxx x2 x3 x4 hNY HYN HX1 hcell
  go_wp2_with (at_make; refine wpList_make_zeros _ rfl _ _ 36 rfl 3 .i64 Tryz.underlying36 tinfo_i64 _ _ X.length rfl rfl (by omega) (by omega) (by omega) ?_)
  intro w3 hrow hbel
  have HR3 := TKept.mk hrow
  have HB3 := TKept.mk hbel
  clear hrow hbel
  go_wp2
  go_loopw [11, 12] (fun rv iv wr => ∃ (k : Nat) (j R : Int) (Q : List Int), k ≤ X.length ∧ Hid (j + 1 = k) ∧ iv = .int .i64 j ∧ TKept (DnAt X Q NY R k) ∧ TKept (Row 3 .i64 wr w2.heap.size Q) ∧ TKept (NumR (Y.length + 1) wr rv R) ∧ TKept (Frm (w2.heap.size + 1) rv) ∧ TKept (Below w2.heap.size w2 wr)) (fun _ iv _ => (intOf iv + 1).toNat)
  case atStart => exact ⟨X.length, _, 0, _, Nat.le_refl _, by show _ - (1 : Int) + 1 = _; omega, rfl, ⟨DnAt.start X hNYp⟩, HR3, ⟨NumR.zero _ _⟩, ⟨Frm.nil _⟩, HB3⟩
  case round =>
    obtain ⟨k, j, R, Q, hk, hj, rfl, hat, hr, hnr, hfr, hbl⟩ := hrel
    by_cases h0 : 0 < k
    · obtain ⟨k, rfl⟩ : ∃ j, k = j+1 := ⟨k - 1, by omega⟩
      obtain rfl : j = (k : Int) := by have := hj.out; omega
      clear hj
      obtain ⟨b, o, rfl, hbs', hcell⟩ := HXX.out k (by omega)
      obtain ⟨x, hx⟩ : ∃ x, x = X[k]?.getD 0 := ⟨_, rfl⟩
      have hxb := Dg.Wf.getD (show (0 : Int) < BN by decide) HXW.out k
      rw [← hx] at hcell hxb
      have hxv0 : 0 ≤ x := hxb.1
      have hxv1 : x < 1000000000 := hxb.2
      have hcl := (hbl.out.cell (p := ⟨b, o + k, none⟩) hbs').trans hcell
      have hki : k < X.length := by omega
      have HIN := TKept.mk (hat.out.enter hki hx hxb)
      have hR0 := hat.out.r0
      have hR1 := hat.out.r1
      have hgl : w2.heap.size < wr.heap.size := hr.out.lt
      obtain ⟨rs, s1, s2, s3, s4, s5⟩ := hnr.out
      have HUP := Lib.hid (show Mine 3 .i64 wr.heap.size (wr.alloc (.cells #[.int .i64 x] 3)) (.slice (some ⟨wr.heap.size, 0, none⟩) 1 1) [x] from .inr ⟨wr.heap.size, 1, #[.int .i64 x], rfl, Nat.le_refl _, heap_alloc_new _ _, by simp, by simp, by unfold maxLen; omega, by simp⟩)
      have HRS := Lib.hid (s1.below (show Below wr.heap.size wr (wr.alloc (.cells #[.int .i64 x] 3)) from (Below.refl _ _).alloc (Nat.le_refl _) _))
      have HBB := Lib.hid (show wr.heap.size ≤ (wr.alloc (.cells #[.int .i64 x] 3)).heap.size by simp)
      have H1 := Lib.hid (show ([x].length + rs.length) * 8 ≤ 140737488355328 by simp; omega)
      have H2 := Lib.hid (show [x].length + rs.length ≤ maxLen by unfold maxLen; simp; omega)
      have HWF : TKept (Dg.Wf BN ([x] ++ rs)) := ⟨(Dg.Wf.one hxb.1 hxb.2).append s2⟩
      have HVV : TKept (Dg.val BN (x :: rs) = x + 1000000000 * R) := ⟨by rw [← s4]; rfl⟩
      have HLT : TKept (x + 1000000000 * R < BN ^ (Y.length + 1)) := ⟨by
        have h := HYL.out
        rw [Int.pow_succ]
        have h2 : (R + 1) * BN ≤ BN ^ Y.length * BN := Int.mul_le_mul_of_nonneg_right (by omega) (by decide)
        rw [Int.add_mul, Int.one_mul] at h2
        have e : R * BN = 1000000000 * R := Int.mul_comm _ _
        have e2 : (BN : Int) = 1000000000 := rfl
        omega⟩
      clear hcell hx hxb s1 s2 s3 s4 s5
      go_wp2_with (at_builtin; refine twpList_append_sl _ rfl _ _ 36 rfl 3 .i64 8 Tryz.underlying36 tinfo_i64 wr.heap.size _ [x] rfl HUP.out HBB.out _ rs rfl HRS.out H1.out H2.out ?_)
      intro v5 w5 hm5 hg5
      have hg6 := tgrowTrans (World.grownBy_alloc wr (.cells #[.int .i64 x] 3) _) hg5
      have HR5 : TKept (Row 3 .i64 w5 w2.heap.size Q) := ⟨hr.out.keep (hg6.block _ hgl (by simp [Value.ownBlock]; omega))⟩
      have HB5 := TKept.mk (hbl.out.grown hg6 hbl.out.size (fun j hj => by simp [Value.ownBlock] at hj; omega))
      have HF5 : TKept (Frm (w2.heap.size + 1) v5) := ⟨fun j hj => by have := (hm5.own j hj).1; omega⟩
      have HS5 := TKept.mk hm5.sl
      clear hm5 hg5 hg6
      go_wp2_with fail
      refine (trim_num HS5.out HWF.out).mono ?_
      rintro e w6 ⟨v6, rfl, rfl, hn6, ho6⟩
      rw [HVV.out] at hn6
      have HN6 := TKept.mk (hn6.up HLT.out)
      have HF6 := TKept.mk (HF5.out.of ho6)
      clear hn6 ho6 HVV HLT HWF HS5 HF5 HUP HRS HBB H1 H2 hgl
      go_wp2
      go_loopg [11] (x + 1000000000 * R).toNat (fun kk rv wi => ∃ (R : Int) (Q : List Int), R.toNat ≤ kk ∧ TKept (DnIn X Q NY R k) ∧ TKept (Row 3 .i64 wi w2.heap.size Q) ∧ TKept (NumR (Y.length + 1) wi rv R) ∧ TKept (Frm (w2.heap.size + 1) rv) ∧ TKept (Below w2.heap.size w2 wi))
      case atStart => exact ⟨_, Q, Nat.le_refl _, HIN, HR5, HN6, HF6, HB5⟩
      case round =>
        obtain ⟨R', Q', hRk, hin, hri, hnri, hfri, hbi⟩ := hrel
        by_cases hge : NY ≤ R'
        · obtain ⟨σ, hσ⟩ : ∃ σ, Dg.sg R' NY = σ := ⟨_, rfl⟩
          have hσ0 : 0 ≤ σ := by rw [← hσ]; exact sg_nonneg3 hge
          have HSG := TKept.mk hσ
          clear hσ
          go_wp2_with fail
          refine (cmpN_num hnri.out (HYN'.out.below hbi.out)).mono ?_
          rintro e w7 ⟨hb7, he7⟩
          rw [HSG.out] at he7
          subst he7
          have HR7 := TKept.mk (hri.out.below hb7)
          have HN7 := TKept.mk (hnri.out.below hb7)
          have HB7 := TKept.mk (hbi.out.trans (hb7.mono hbi.out.size))
          clear hb7
          obtain ⟨rs, s1, s2, s3, s4, s5⟩ := HN7.out
          have hlr : Y.length ≤ rs.length := by
            apply Classical.byContradiction
            intro hc
            have h1 := Dg.val_lt (show (0 : Int) < BN by decide) s2
            have h2 := Dg.pow_mono (show (0 : Int) < BN by decide) (show rs.length ≤ Y.length - 1 by omega)
            have h3 := HYG.out
            omega
          obtain ⟨ro, rc, rfl, hrc, hrm, hrx⟩ := s1
          have HRX := TKept.mk hrx
          have HSW := TKept.mk s2
          have HSV := TKept.mk s4
          unfold maxLen at hrm
          clear hrx s2 s3 s4
          go_wp2
          go_loop [14, 15] (fun nv kv => ∃ (kk : Nat) (j y : Int), kk ≤ rs.length ∧ Y.length ≤ kk + 1 ∧ Hid (j + 1 = kk) ∧ kv = .int .i64 j ∧ nv = .int .i64 y ∧ TKept (y = Dg.val BN (rs.drop kk)) ∧ 0 ≤ y ∧ y < 1000000000000000000) (fun _ kv => (intOf kv + 1).toNat)
          case atStart => exact ⟨rs.length, _, 0, Nat.le_refl _, by omega, by show _ - (1 : Int) + 1 = _; omega, rfl, rfl, ⟨by rw [List.drop_length]; rfl⟩, by omega, by omega⟩
          case round =>
            obtain ⟨kk, j, y, hk1, hk2, hj, rfl, rfl, hy, hy0, hy1⟩ := hrel
            by_cases hc : Y.length ≤ kk
            · obtain ⟨q, rfl⟩ : ∃ q, kk = q + 1 := ⟨kk - 1, by omega⟩
              obtain rfl : j = (q : Int) := by have := hj.out; omega
              clear hj
              obtain ⟨rb, rof, rfl, hrs, hrcell⟩ := HRX.out q (by omega)
              obtain ⟨u, hu⟩ : ∃ u, u = rs[q]?.getD 0 := ⟨_, rfl⟩
              have hub := Dg.Wf.getD (show (0 : Int) < BN by decide) HSW.out q
              rw [← hu] at hrcell hub
              have hu0 : 0 ≤ u := hub.1
              have hu1 : u < 1000000000 := hub.2
              have hlt : y < 1000000000 := by
                have h1 := Dg.val_lt (show (0 : Int) < BN by decide) (HSW.out.drop (q + 1))
                have h2 := Dg.pow_mono (show (0 : Int) < BN by decide) (show (rs.drop (q + 1)).length ≤ 1 by simp; omega)
                rw [← hy.out] at h1
                have h3 : (BN : Int) ^ 1 = 1000000000 := by decide
                omega
              have HY2 : TKept (y * 1000000000 + u = Dg.val BN (rs.drop q)) := ⟨by rw [drop_at2 (by omega) hu, hy.out]; omega⟩
              have hql : q < rs.length := by omega
              clear hu hub hy
              go_wp2
              refine ⟨⟨q, (q : Int) - 1, y * 1000000000 + u, by omega, by omega, by show _ - (1 : Int) + 1 = _; omega, rfl, rfl, HY2, by omega, by omega⟩, by simp [intOf] <;> omega⟩
            · have hjj : j = (Y.length : Int) - 2 := by have := hj.out; omega
              subst hjj
              clear hj
              have hkk : kk = Y.length - 1 := by omega
              subst hkk
              obtain ⟨G, hG⟩ : ∃ G, max 1 (min 999999999 (y / (yt + 1))) = G := ⟨_, rfl⟩
              have hgs := dn_guess (c := BN ^ (Y.length - 1)) (r := R') (y := NY) (nn := y) (ytop := yt) (Dg.pow_pos (by decide) _) (by have h := (dn_top HSW.out (Y.length - 1)).1; rw [← hy.out, HSV.out] at h; exact h) HYT.out (by omega) (by omega) hy0 hge hG.symm
              obtain ⟨hg0, hg1, hg2⟩ := hgs
              obtain ⟨c, hcq⟩ : ∃ c, c = Q'[k]?.getD 0 := ⟨_, rfl⟩
              obtain ⟨hcg0, hcg1, hnx⟩ := hin.out.next hcq hg0 hg2
              have hcb := Dg.Wf.getD (show (0 : Int) < BN by decide) hin.out.wf k
              rw [← hcq] at hcb
              have hc0 : 0 ≤ c := hcb.1
              have hc1 : c < 1000000000 := hcb.2
              have HNX := TKept.mk hnx
              have HG := TKept.mk hG
              have HCQ := TKept.mk hcq
              have HG2 : TKept (NY * G ≤ R') := ⟨by rw [Int.mul_comm]; exact hg2⟩
              have hmeas : Hid ((R' - NY * G).toNat < R'.toNat) := by
                show _ < _
                have h1 := HNX.out.r0
                have h2 : 1 * NY ≤ G * NY := Int.mul_le_mul_of_nonneg_right hg0 (by omega)
                have h3 : NY * G = G * NY := Int.mul_comm _ _
                omega
              clear hnx hcq hcb hG hg2 hin hy
              go_wp2_with fail
              rw [HG.out]
              refine (rtimes_num (HYN'.out.below HB7.out) (by omega) (by omega) (by omega)).mono ?_
              rintro e w8 ⟨hb8, v8, rfl, hn8⟩
              have HR8 := TKept.mk (HR7.out.below hb8)
              have HN8 := TKept.mk (HN7.out.below hb8)
              have HB8 := TKept.mk (HB7.out.trans (hb8.mono HB7.out.size))
              have HT8 := TKept.mk hn8
              clear hb8 hn8
              go_wp2_with fail
              refine (subN_own HN8.out HT8.out (by omega) HG2.out).mono ?_
              rintro e w9 ⟨hb9, v9, rfl, hn9, hf9⟩
              have HR9 := TKept.mk (HR8.out.below hb9)
              have HN9 := TKept.mk hn9
              have HF9 := TKept.mk (hf9.mono (show w2.heap.size + 1 ≤ w8.heap.size from HR8.out.lt))
              have HB9 := TKept.mk (HB8.out.trans (hb9.mono HB8.out.size))
              have hcz := HR9.out.cell (i := k) (by have := HNX.out.len; simp at this; omega)
              rw [← HCQ.out] at hcz
              have hfz := HR9.out.free k
              clear hb9 hn9 hf9
              go_wp2
              go_roundg (R' - NY * G).toNat
              case rel => exact ⟨R' - NY * G, Q'.set k (c + G), Nat.le_refl _, HNX, ⟨HR9.out.set k (c + G)⟩, ⟨HN9.out.other HF9.out k _⟩, HF9, ⟨HB9.out.setCell (Nat.le_refl _) _⟩⟩
              case measure => have := hmeas.out; omega
        · have hlt : R' < NY := by omega
          have HSG := TKept.mk (Dg.sg_lt hlt)
          have HDN := TKept.mk (hin.out.leave hlt)
          clear hin hge
          go_wp2_with fail
          refine (cmpN_num hnri.out (HYN'.out.below hbi.out)).mono ?_
          rintro e w7 ⟨hb7, he7⟩
          rw [HSG.out] at he7
          subst he7
          have HR7 := TKept.mk (hri.out.below hb7)
          have HN7 := TKept.mk (hnri.out.below hb7)
          have HB7 := TKept.mk (hbi.out.trans (hb7.mono hbi.out.size))
          clear hb7 hri hnri hbi
          go_wp2
          go_roundw
          case rel => exact ⟨k, (k : Int) - 1, R', Q', by omega, by show _ - (1 : Int) + 1 = _; omega, rfl, HDN, HR7, HN7, hfri, HB7⟩
          case measure => simp [intOf] <;> omega
    · obtain rfl : k = 0 := by omega
      obtain rfl : j = -1 := by have := hj.out; omega
      obtain ⟨hdv, hdr⟩ := hat.out.done
      obtain ⟨hsc1, hsc2⟩ := dn_scaled (m := m) (n := n) (d := D) (by omega) hn
      obtain ⟨rs, s1, s2, s3, s4, s5⟩ := hnr.out
      have hsl := rdivsmall_any _ rs D wr s1 s2 (by omega) hD1 (by omega)
      rw [s4, hdr, HXV.out, ← HNY.out, hsc2] at hsl
      rw [HXV.out, ← HNY.out, hsc1] at hdv
      have HSL := TKept.mk hsl
      have HQV := TKept.mk hdv
      have HQW := TKept.mk hat.out.wf
      have HQL := TKept.mk hat.out.len
      have hma := HA.out.lt
      have hnb := HB.out.lt
      have HM1 : TKept (m / n < BN ^ La) := ⟨Int.lt_of_le_of_lt (Int.ediv_le_self _ hm0) hma.2⟩
      have HM2 : TKept (m % n < BN ^ Lb) := ⟨Int.lt_trans (Int.emod_lt_of_pos _ hn) hnb.2⟩
      clear hdv hdr hsc1 hsc2 s1 s2 s3 s4 s5 hsl hj hat hma hnb
      go_wp2_with fail
      refine HSL.out.mono ?_
      rintro e w8 ⟨v8, r8, rfl, hb8, hn8, hr8⟩
      have HS8 := TKept.mk ((hr.out.below hb8).slAll (n := X.length) (cap := X.length) HQL.out.symm (Nat.le_refl _) (by unfold maxLen; omega))
      have HN8 := TKept.mk (hn8.up HM2.out)
      have HB8 := TKept.mk (HB2.out.trans ((hbl.out.trans (hb8.mono hbl.out.size)).mono HB2.out.size))
      clear hb8 hn8 hr8
      go_wp2_with fail
      refine (trim_num HS8.out HQW.out).mono ?_
      rintro e w9 ⟨v9, rfl, rfl, hn9, _⟩
      rw [HQV.out] at hn9
      have HN9 := TKept.mk (hn9.up HM1.out)
      clear hn9
      go_wp2
      go_ret2
      exact ⟨_, _, rfl, HB8.out, HN9.out, HN8.out⟩
end Go.Proofs.YtfhhnfpapgfnmaaGreat

set_option linter.unusedVariables false
set_option linter.unusedSimpArgs false
namespace Go.Proofs.YtfhhnfpapgfnmaaGreat
open Go Go.RowKit
end Go.Proofs.YtfhhnfpapgfnmaaGreat

set_option linter.unusedVariables false
set_option linter.unusedSimpArgs false
namespace Go.Proofs.YtfhhnfpapgfnmaaGreat
open Go Go.RowKit
theorem quo_sgn {z y : Int} (hy : y ≠ 0) : sgn (decide (z * y < 0) != decide (y < 0)) z.natAbs = z := by
  have hyy : y < 0 ∨ 0 < y := by omega
  rcases Int.lt_trichotomy z 0 with hz | hz | hz
  · rcases hyy with h | h
    · have h1 : ¬ z * y < 0 := by have := Int.mul_pos_of_neg_of_neg hz h; omega
      simp [sgn, h, h1]; omega
    · have h1 : z * y < 0 := Int.mul_neg_of_neg_of_pos hz h
      have h2 : ¬ y < 0 := by omega
      simp [sgn, h1, h2]; omega
  · subst hz
    unfold sgn
    split <;> simp
  · rcases hyy with h | h
    · have h1 : z * y < 0 := Int.mul_neg_of_pos_of_neg hz h
      simp [sgn, h, h1]; omega
    · have h1 : ¬ z * y < 0 := by have := Int.mul_pos hz h; omega
      have h2 : ¬ y < 0 := by omega
      simp [sgn, h1, h2]; omega
theorem quo_abs {z y : Int} (hy : y ≠ 0) : ((z * y).natAbs : Int) / (y.natAbs : Int) = (z.natAbs : Int) := by
  rw [Int.natAbs_mul, Int.natCast_mul]
  exact Int.mul_ediv_cancel _ (by omega)
/-- What the reference's Div returns. -/
def TRdRet (L L' : Nat) (w : World) (z y : Int) (e : Ending) (w' : World) : Prop := Below w.heap.size w w' ∧ ∃ q r, e = .returned (.tuple #[q, r]) ∧ ZV L w' q (z / y) ∧ ZV L' w' r (z % y)
set_option maxRecDepth 20000 in
set_option maxHeartbeats 2000000 in
theorem rquo_any {La Lb : Nat} {va vb : Value} {z y : Int} {w : World} (ha : ZV La w va (z * y)) (hb : ZV Lb w vb y) (hy : y ≠ 0) (h1 : La ≤ 100000000) (h2 : Lb ≤ 100000000) :
    Calls Tryz.prog 25 #[va, vb] w (RetZ La w z) := by
  obtain ⟨sa, ua, rfl, hsa, hna⟩ := ha
  obtain ⟨sb, ub, rfl, hsb, hnb⟩ := hb
  obtain ⟨ao, ka, ca, rfl, _, _⟩ := hna.form
  obtain ⟨bo, kb, cb, rfl, _, _⟩ := hnb.form
  have HX0 : TKept (TBxs w [.cells #[.bool sa, .slice ao ka ca] 38, .cells #[.bool sb, .slice bo kb cb] 38, .cells #[.bool false, .slice none 0 0] 38] (((w.alloc (.cells #[.bool sa, .slice ao ka ca] 38)).alloc (.cells #[.bool sb, .slice bo kb cb] 38)).alloc (.cells #[.bool false, .slice none 0 0] 38))) := ⟨(((TBxs.start w).alloc (by simp) _).alloc (by simp) _).alloc (by simp) _⟩
  have HNA := TKept.mk (hna.below HX0.out.1)
  have HNB := TKept.mk (hnb.below HX0.out.1)
  have HSA := TKept.mk hsa
  have HSB := TKept.mk hsb
  have hd := rdivn_num HNA.out HNB.out (by omega) (Nat.le_trans h1 (by decide)) (Nat.le_trans h2 (by decide))
  rw [quo_abs hy] at hd
  have HD := TKept.mk hd
  have hsg := quo_sgn (z := z) hy
  rw [← hsa, ← hsb] at hsg
  have HSG := TKept.mk hsg
  clear hna hnb hsa hsb hd hsg hy
  obtain ⟨i0, j0, -, -⟩ := ttwo_cells HX0.out.b0
  obtain ⟨i1, j1, -, -⟩ := ttwo_cells HX0.out.b1
  go_enter Tryz.func25, Tryz.ntmps25
  go_wp2_with fail
  refine HD.out.mono ?_
  rintro e w1 ⟨q, r, rfl, hb1, hq1, hr1⟩
  obtain ⟨qo, kq, cq, rfl, _, _⟩ := hq1.form
  obtain ⟨ro, kr, cr, rfl, _, _⟩ := hr1.form
  have HX1 := TKept.mk (HX0.out.below hb1)
  have HQ1 := TKept.mk hq1
  clear hb1 hq1 hr1 i0 i1 j0 j1
  obtain ⟨i0, j0, -, -⟩ := ttwo_cells HX1.out.b0
  obtain ⟨i1, j1, -, -⟩ := ttwo_cells HX1.out.b1
  go_wp2_with fail
  refine (rint_any (sa != sb) HQ1.out).mono ?_
  rintro e w2 ⟨hb2, v2, rfl, s2, u2, rfl, hs2, hn2⟩
  rw [HSG.out] at hs2 hn2
  obtain ⟨o2, k2, c2, rfl, _, _⟩ := hn2.form
  have HX2 := TKept.mk (HX1.out.below hb2)
  have hbx := HX2.out.b2
  obtain ⟨c0, c1, f0, f1⟩ := ttwo_cells hbx
  have hsz := HX2.out.l3
  have HE := TKept.mk (rint_end (L := La) (w := w) (z := z) (s := s2) (ao := o2) (k := k2) (c := c2) hbx HX2.out.1 (by omega) hs2 hn2)
  clear hb2 hs2 hn2 hbx i0 i1 j0 j1
  go_wp2
  exact bodyPost_ret (v := .agg #[.bool s2, .slice o2 k2 c2]) (by simp [results, Tryz.results25, go_sem, HE.out.2.1, HE.out.2.2]) rfl HE.out.1
end Go.Proofs.YtfhhnfpapgfnmaaGreat

set_option linter.unusedVariables false
set_option linter.unusedSimpArgs false
namespace Go.Proofs.YtfhhnfpapgfnmaaGreat
open Go Go.RowKit
theorem ZV.keep {L : Nat} {w w' : World} {v : Value} {z : Int} {g : Nat} {cs : Array Value} {T : TypeId} {fr : Nat × Nat} (h : ZV L w v z) (hg : w.heap[g]? = some (.cells cs T fr)) (hc : ∀ (i : Nat) (m : Int), cs[i]? ≠ some (Value.int .i64 m)) (hgr : w.grownBy w' (some g)) : ZV L w' v z := by
  obtain ⟨sb, sv, e, h1, xs, h2, h3⟩ := h
  exact ⟨sb, sv, e, h1, xs, h2.kept hgr (fun k hk e => h2.not_boxT hg hc (hk.trans e.symm)), h3⟩
theorem dsum_at (f : Nat → Int) (n : Nat) {i : Nat} (hi : 1 ≤ i) : FFld.dsum f n i = if n % i = 0 then FFld.dsum f n (i - 1) + (i : Int) * f i else FFld.dsum f n (i - 1) := by
  obtain ⟨j, rfl⟩ : ∃ j, i = j + 1 := ⟨i - 1, by omega⟩
  rfl
set_option maxRecDepth 20000 in
set_option maxHeartbeats 8000000 in
theorem rirrs_any (q : Nat) (hq : q ≤ 65536) : ∀ n : Nat, 1 ≤ n → n ≤ 40 → ∀ (w : World), Calls Tryz.prog 9 #[.int .i64 q, .int .i64 n] w (RetZ (10000 * n) w (FFld.irrs q n)) := by
  intro n
  induction n using Nat.strongRecOn with
  | ind n ih =>
    intro hn1 hn w
    have IH := Kept.mk ih
    have HO1 := Kept.mk (fun W => rof_any (q : Int) W (by omega) (by omega))
    have HO2 := Kept.mk (fun W => rof_any (n : Int) W (by omega) (by omega))
    have HRF := Kept.mk (FFld.irrs_ref q hn1 hn)
    have HX0 : Kept (Bxs w [.cells #[.bool false, .slice none 0 0] 38] (w.alloc (.cells #[.bool false, .slice none 0 0] 38))) := ⟨(Bxs.start w).alloc (by simp) _⟩
    clear ih
    go_enter Tryz.func9, Tryz.ntmps9
    go_wp2_with fail
    refine (HO1.out _).mono ?_
    rintro e w1 ⟨hb1, v1, rfl, hz1⟩
    obtain ⟨s1, sv1, rfl, hs1, hn1'⟩ := hz1
    obtain ⟨o1, k1, c1, rfl, _, _⟩ := hn1'.form
    have HX1 := Kept.mk (HX0.out.below hb1)
    have HZ1 : Kept (ZV 64 w1 (.agg #[.bool s1, .slice o1 k1 c1]) q) := ⟨⟨_, _, rfl, hs1, hn1'⟩⟩
    clear hb1 hs1 hn1'
    go_wp2_with fail
    refine (rpower_any (n := n) HZ1.out (by omega) (by omega)).mono ?_
    rintro e w2 ⟨hb2, v2, rfl, hz2⟩
    obtain ⟨s2, sv2, rfl, hs2, hn2⟩ := hz2
    obtain ⟨o2, k2, c2, rfl, _, _⟩ := hn2.form
    have HX2 := Kept.mk (HX1.out.below hb2)
    have HZ2 : Kept (ZV (64 + n * 64) w2 (.agg #[.bool s2, .slice o2 k2 c2]) ((q : Int) ^ n)) := ⟨⟨_, _, rfl, hs2, hn2⟩⟩
    clear hb2 hs2 hn2
    obtain ⟨W3, hW3⟩ : ∃ W, w2.alloc (.cells #[.bool s2, .slice o2 k2 c2] 38) = W := ⟨_, rfl⟩
    have hal : Below w2.heap.size w2 W3 := by rw [← hW3]; exact (Below.refl _ _).alloc (Nat.le_refl _) _
    have HX3 := Kept.mk (HX2.out.below hal)
    have HZ3 := Kept.mk ((HZ2.out.below hal).mono (show 64 + n * 64 ≤ 10000 * (n - 1) + 2700 + 1 by omega))
    have H53 : Kept (W3.heap[w2.heap.size]? = some (.cells #[.bool s2, .slice o2 k2 c2] 38 (0, 0))) := ⟨by rw [← hW3]; exact heap_alloc_new w2 _⟩
    have hd0 : FFld.dsum (FFld.irrs q) n (1 - 1) = 0 := rfl
    have HZ3' : Kept (ZV (10000 * (n - 1) + 2700 + 1) W3 (.agg #[.bool s2, .slice o2 k2 c2]) ((q : Int) ^ n - FFld.dsum (FFld.irrs q) n (1 - 1))) := ⟨by rw [hd0, Int.sub_zero]; exact HZ3.out⟩
    obtain ⟨qn, hqn⟩ : ∃ x, (q : Int) ^ n = x := ⟨_, rfl⟩
    rw [hqn] at HZ3' HRF
    clear HZ2 HZ3 hal hd0 hqn
    go_wp2
    try rw [hW3]
    obtain ⟨g5, hg5⟩ : ∃ g, w2.heap.size = g := ⟨_, rfl⟩
    rw [hg5] at H53 ⊢
    have hg5w : w.heap.size < g5 := by have := HX2.out.2.1; simp at this; omega
    clear hg5 hW3
    go_loopw [6] (fun iv wr => ∃ (i : Nat) (s : Bool) (ro : Option Addr) (rk rc : Nat), 1 ≤ i ∧ i ≤ n ∧ iv = .int .i64 i ∧ Kept (Below w.heap.size w wr) ∧ Kept (wr.heap[w.heap.size]? = some (.cells #[.bool false, .slice none 0 0] 38 (0, 0))) ∧ Kept (wr.heap[g5]? = some (.cells #[.bool s, .slice ro rk rc] 38 (0, 0))) ∧ Kept (ZV (10000 * (n - 1) + 2700 + i) wr (.agg #[.bool s, .slice ro rk rc]) (qn - FFld.dsum (FFld.irrs q) n (i - 1)))) (fun iv _ => n - (intOf iv).toNat)
    case atStart => exact ⟨1, s2, o2, k2, c2, Nat.le_refl _, hn1, rfl, ⟨HX3.out.1⟩, ⟨HX3.out.b0⟩, H53, HZ3'⟩
    case round =>
      obtain ⟨i, s, ro, rk, rc, hi1, hin, rfl, hbw, hb4, hb5, hZ⟩ := hrel
      obtain ⟨q0, q1, z0, z1⟩ := two_cells hb5.out
      have hg5l : g5 < wr.heap.size := (Array.getElem?_eq_some_iff.1 hb5.out).1
      obtain ⟨sm, hsm⟩ : ∃ x, qn - FFld.dsum (FFld.irrs q) n (i - 1) = x := ⟨_, rfl⟩
      by_cases hlt : i < n
      · obtain ⟨r, hr⟩ : ∃ r, n % i = r := ⟨_, rfl⟩
        have hds := dsum_at (FFld.irrs q) n hi1
        have er1 : (n : Int) % (i : Int) = r := by rw [← hr]; rfl
        have er2 : (n : Int).tmod (i : Int) = r := by rw [Int.tmod_eq_emod_of_nonneg (by omega)]; exact er1
        have hz1 : ¬ ((i : Int) = 0) := by omega
        have hz2 : ¬ (i = 0) := by omega
        rw [hr] at hds
        by_cases h0 : r = 0
        · have e0 : ((r : Int) == 0) = true := by rw [h0]; rfl
          rw [if_pos h0] at hds
          obtain ⟨fi, hfi⟩ : ∃ x, FFld.irrs q i = x := ⟨_, rfl⟩
          have HOF := Kept.mk (fun W => rof_any (i : Int) W (by omega) (by omega))
          have HREC := Kept.mk (IH.out i hlt hi1 (by omega))
          rw [hfi] at HREC hds
          have HNX : Kept (qn - FFld.dsum (FFld.irrs q) n (i + 1 - 1) = sm - (i : Int) * fi) := ⟨by rw [Nat.add_sub_cancel, hds, ← hsm]; omega⟩
          rw [hsm] at hZ
          have HZS := hZ
          clear hr h0 hds hsm hfi
          go_wp2
          refine wp_region_held_drew (S := fun _ => True) (by kernel_rfl) trivial (fun hHeld => ?_)
          refine wpAnyH_take (i := 1) (v := ?_) rfl (by kernel_rfl) (by kernel_rfl) (by kernel_rfl) (fun _ _ _ h => h) (Or.inl ⟨by rfl, ?_⟩) (by assumption) ?_
          rotate_left
          · (intro w hSw; (try dsimp only at hSw); go_simp; (try with_reducible rfl))
          try simp only [Act.put, List.getElem_toArray, List.getElem_cons_succ, List.getElem_cons_zero, List.setIfInBounds_toArray, List.set_cons_zero, List.set_cons_succ]
          refine wpAnyH_take (i := 3) (v := ?_) rfl (by kernel_rfl) (by kernel_rfl) (by kernel_rfl) (fun _ _ _ h => h) (Or.inl ⟨by rfl, ?_⟩) (by assumption) ?_
          rotate_left
          · (intro w hSw; (try dsimp only at hSw); go_simp; (try with_reducible rfl))
          try simp only [Act.put, List.getElem_toArray, List.getElem_cons_succ, List.getElem_cons_zero, List.setIfInBounds_toArray, List.set_cons_zero, List.set_cons_succ]
          refine wpAnyH_take (i := 4) (v := ?_) rfl (by kernel_rfl) (by kernel_rfl) (by kernel_rfl) (fun _ _ _ h => h) (Or.inl ⟨by rfl, ?_⟩) (by assumption) ?_
          rotate_left
          · (intro w hSw; (try dsimp only at hSw); go_simp; (try with_reducible rfl))
          try simp only [Act.put, List.getElem_toArray, List.getElem_cons_succ, List.getElem_cons_zero, List.setIfInBounds_toArray, List.set_cons_zero, List.set_cons_succ]
          refine wpAnyH_ready (rs := [0, 2]) (by kernel_rfl) (by simp) ?_
          refine AllReadyH.cons rfl (fun K hK => ?_) (AllReadyH.cons rfl (fun K hK => ?_) AllReadyH.nil)
          · go_simp
            refine hK.out _ _ trivial (fun hHeld => ?_)
            clear hK K
            try simp only [Act.put, List.getElem_toArray, List.getElem_cons_succ, List.getElem_cons_zero, List.setIfInBounds_toArray, List.set_cons_zero, List.set_cons_succ]
            refine wpAnyH_ready (rs := [2]) (by kernel_rfl) (by simp) ?_
            refine (AllReadyH.cons rfl (fun K hK => ?_) AllReadyH.nil)
            go_simp
            refine (HOF.out _).mono ?_
            rintro e wa ⟨hba, va, rfl, hza⟩
            have RA : Kept (Below wr.heap.size wr wa) := ⟨(Below.refl _ _).drew.trans hba⟩
            obtain ⟨sA, svA, rfl, hsA, hnA⟩ := hza
            obtain ⟨oA, kA, cA, rfl, _, _⟩ := hnA.form
            have HZA : Kept (ZV 64 wa (.agg #[.bool sA, .slice oA kA cA]) ((i : Int))) := ⟨⟨_, _, rfl, hsA, hnA⟩⟩
            clear hsA hnA
            have x0 := belowCell RA.out q0
            have x1 := belowCell RA.out q1
            clear hba
            refine hK.out _ _ trivial (fun hHeld => ?_)
            clear hK K
            try simp only [Act.put, List.getElem_toArray, List.getElem_cons_succ, List.getElem_cons_zero, List.setIfInBounds_toArray, List.set_cons_zero, List.set_cons_succ]
            refine wpAnyH_ready (rs := [5]) (by kernel_rfl) (by simp) ?_
            refine (AllReadyH.cons rfl (fun K hK => ?_) AllReadyH.nil)
            go_simp
            refine (HREC.out _).mono ?_
            rintro e wb ⟨hbb, vb, rfl, hzb⟩
            have RB := Kept.mk (bstep RA.out hbb)
            obtain ⟨sB, svB, rfl, hsB, hnB⟩ := hzb
            obtain ⟨oB, kB, cB, rfl, _, _⟩ := hnB.form
            have HZB : Kept (ZV (10000 * i) wb (.agg #[.bool sB, .slice oB kB cB]) (fi)) := ⟨⟨_, _, rfl, hsB, hnB⟩⟩
            clear hsB hnB
            have HZA2 := Kept.mk (HZA.out.below hbb)
            have x0 := belowCell RB.out q0
            have x1 := belowCell RB.out q1
            clear hbb
            refine hK.out _ _ trivial (fun hHeld => ?_)
            clear hK K
            try simp only [Act.put, List.getElem_toArray, List.getElem_cons_succ, List.getElem_cons_zero, List.setIfInBounds_toArray, List.set_cons_zero, List.set_cons_succ]
            refine wpAnyH_ready (rs := [6]) (by kernel_rfl) (by simp) ?_
            refine (AllReadyH.cons rfl (fun K hK => ?_) AllReadyH.nil)
            go_simp
            refine (rmulz_any HZA2.out HZB.out (by omega) (by omega)).mono ?_
            rintro e wc ⟨hbc, vc, rfl, hzc⟩
            have RC := Kept.mk (bstep RB.out hbc)
            obtain ⟨sC, svC, rfl, hsC, hnC⟩ := hzc
            obtain ⟨oC, kC, cC, rfl, _, _⟩ := hnC.form
            have HZC : Kept (ZV (64 + 10000 * i) wc (.agg #[.bool sC, .slice oC kC cC]) ((i : Int) * fi)) := ⟨⟨_, _, rfl, hsC, hnC⟩⟩
            clear hsC hnC
            have x0 := belowCell RC.out q0
            have x1 := belowCell RC.out q1
            clear hbc
            refine hK.out _ _ trivial (fun hHeld => ?_)
            clear hK K
            try simp only [Act.put, List.getElem_toArray, List.getElem_cons_succ, List.getElem_cons_zero, List.setIfInBounds_toArray, List.set_cons_zero, List.set_cons_succ]
            refine wpAnyH_ready (rs := [7]) (by kernel_rfl) (by simp) ?_
            refine (AllReadyH.cons rfl (fun K hK => ?_) AllReadyH.nil)
            go_simp
            refine (rsubz_any (HZS.out.below RC.out) HZC.out (by omega) (by omega)).mono ?_
            rintro e wd ⟨hbd, vd, rfl, hzd⟩
            have RD := Kept.mk (bstep RC.out hbd)
            obtain ⟨sD, svD, rfl, hsD, hnD⟩ := hzd
            obtain ⟨oD, kD, cD, rfl, _, _⟩ := hnD.form
            have HZD : Kept (ZV (max (10000 * (n - 1) + 2700 + i) (64 + 10000 * i) + 1) wd (.agg #[.bool sD, .slice oD kD cD]) (sm - (i : Int) * fi)) := ⟨⟨_, _, rfl, hsD, hnD⟩⟩
            clear hsD hnD
            have hx := (RD.out.block _ hg5l).trans hb5.out
            obtain ⟨t0, t1, y0, y1⟩ := two_cells hx
            have hgd : g5 < wd.heap.size := (Array.getElem?_eq_some_iff.1 hx).1
            have hset := two_set hx (.bool sD) (.slice oD kD cD)
            have hgr : wd.grownBy ((wd.setCell ⟨g5, 0, none⟩ (.bool sD)).setCell ⟨g5, 1, none⟩ (.slice oD kD cD)) (some g5) := growSet (growSet (growRefl _ _) _ _) _ _
            have HZ4 := Kept.mk ((HZD.out.keep hx (fun i m e => by rcases i with _ | _ | i <;> simp at e) hgr).mono (show max (10000 * (n - 1) + 2700 + i) (64 + 10000 * i) + 1 ≤ 10000 * (n - 1) + 2700 + (i + 1) by omega))
            have HB4 := Kept.mk ((((hbw.out.trans (RD.out.mono hbw.out.size))).setCell (p := ⟨g5, 0, none⟩) (by simp only []; omega) (.bool sD)).setCell (p := ⟨g5, 1, none⟩) (by simp only []; omega) (.slice oD kD cD))
            have HS4 := Kept.mk hset
            have H44 := Kept.mk ((hgr.block _ (by have := RD.out.size; omega) (by simp; omega)).trans ((RD.out.block _ (by omega)).trans hb4.out))
            clear hbd hset hgr
            refine hK.out _ _ trivial (fun hHeld => ?_)
            clear hK K
            try simp only [Act.put, List.getElem_toArray, List.getElem_cons_succ, List.getElem_cons_zero, List.setIfInBounds_toArray, List.set_cons_zero, List.set_cons_succ]
            refine wpAnyH_ready (rs := [8]) (by kernel_rfl) (by simp) ?_
            refine (AllReadyH.cons rfl (fun K hK => ?_) AllReadyH.nil)
            go_simp
            refine hK.out _ _ trivial (fun hHeld => ?_)
            clear hK K
            try simp only [Act.put, List.getElem_toArray, List.getElem_cons_succ, List.getElem_cons_zero, List.setIfInBounds_toArray, List.set_cons_zero, List.set_cons_succ]
            refine wpAnyH_done (by kernel_rfl) ?_ _
            go_wp2
            go_roundw
            case rel => exact ⟨i + 1, sD, oD, kD, cD, by omega, by omega, by go_num, HB4, H44, HS4, by rw [HNX.out]; exact HZ4⟩
            case measure => simp [intOf] <;> omega
          · go_simp
            refine (HOF.out _).mono ?_
            rintro e wa ⟨hba, va, rfl, hza⟩
            have RA : Kept (Below wr.heap.size wr wa) := ⟨(Below.refl _ _).drew.trans hba⟩
            obtain ⟨sA, svA, rfl, hsA, hnA⟩ := hza
            obtain ⟨oA, kA, cA, rfl, _, _⟩ := hnA.form
            have HZA : Kept (ZV 64 wa (.agg #[.bool sA, .slice oA kA cA]) ((i : Int))) := ⟨⟨_, _, rfl, hsA, hnA⟩⟩
            clear hsA hnA
            have x0 := belowCell RA.out q0
            have x1 := belowCell RA.out q1
            clear hba
            refine hK.out _ _ trivial (fun hHeld => ?_)
            clear hK K
            try simp only [Act.put, List.getElem_toArray, List.getElem_cons_succ, List.getElem_cons_zero, List.setIfInBounds_toArray, List.set_cons_zero, List.set_cons_succ]
            refine wpAnyH_ready (rs := [0, 5]) (by kernel_rfl) (by simp) ?_
            refine AllReadyH.cons rfl (fun K hK => ?_) (AllReadyH.cons rfl (fun K hK => ?_) AllReadyH.nil)
            · go_simp
              refine hK.out _ _ trivial (fun hHeld => ?_)
              clear hK K
              try simp only [Act.put, List.getElem_toArray, List.getElem_cons_succ, List.getElem_cons_zero, List.setIfInBounds_toArray, List.set_cons_zero, List.set_cons_succ]
              refine wpAnyH_ready (rs := [5]) (by kernel_rfl) (by simp) ?_
              refine (AllReadyH.cons rfl (fun K hK => ?_) AllReadyH.nil)
              go_simp
              refine (HREC.out _).mono ?_
              rintro e wb ⟨hbb, vb, rfl, hzb⟩
              have RB := Kept.mk (bstep RA.out hbb)
              obtain ⟨sB, svB, rfl, hsB, hnB⟩ := hzb
              obtain ⟨oB, kB, cB, rfl, _, _⟩ := hnB.form
              have HZB : Kept (ZV (10000 * i) wb (.agg #[.bool sB, .slice oB kB cB]) (fi)) := ⟨⟨_, _, rfl, hsB, hnB⟩⟩
              clear hsB hnB
              have HZA2 := Kept.mk (HZA.out.below hbb)
              have x0 := belowCell RB.out q0
              have x1 := belowCell RB.out q1
              clear hbb
              refine hK.out _ _ trivial (fun hHeld => ?_)
              clear hK K
              try simp only [Act.put, List.getElem_toArray, List.getElem_cons_succ, List.getElem_cons_zero, List.setIfInBounds_toArray, List.set_cons_zero, List.set_cons_succ]
              refine wpAnyH_ready (rs := [6]) (by kernel_rfl) (by simp) ?_
              refine (AllReadyH.cons rfl (fun K hK => ?_) AllReadyH.nil)
              go_simp
              refine (rmulz_any HZA2.out HZB.out (by omega) (by omega)).mono ?_
              rintro e wc ⟨hbc, vc, rfl, hzc⟩
              have RC := Kept.mk (bstep RB.out hbc)
              obtain ⟨sC, svC, rfl, hsC, hnC⟩ := hzc
              obtain ⟨oC, kC, cC, rfl, _, _⟩ := hnC.form
              have HZC : Kept (ZV (64 + 10000 * i) wc (.agg #[.bool sC, .slice oC kC cC]) ((i : Int) * fi)) := ⟨⟨_, _, rfl, hsC, hnC⟩⟩
              clear hsC hnC
              have x0 := belowCell RC.out q0
              have x1 := belowCell RC.out q1
              clear hbc
              refine hK.out _ _ trivial (fun hHeld => ?_)
              clear hK K
              try simp only [Act.put, List.getElem_toArray, List.getElem_cons_succ, List.getElem_cons_zero, List.setIfInBounds_toArray, List.set_cons_zero, List.set_cons_succ]
              refine wpAnyH_ready (rs := [7]) (by kernel_rfl) (by simp) ?_
              refine (AllReadyH.cons rfl (fun K hK => ?_) AllReadyH.nil)
              go_simp
              refine (rsubz_any (HZS.out.below RC.out) HZC.out (by omega) (by omega)).mono ?_
              rintro e wd ⟨hbd, vd, rfl, hzd⟩
              have RD := Kept.mk (bstep RC.out hbd)
              obtain ⟨sD, svD, rfl, hsD, hnD⟩ := hzd
              obtain ⟨oD, kD, cD, rfl, _, _⟩ := hnD.form
              have HZD : Kept (ZV (max (10000 * (n - 1) + 2700 + i) (64 + 10000 * i) + 1) wd (.agg #[.bool sD, .slice oD kD cD]) (sm - (i : Int) * fi)) := ⟨⟨_, _, rfl, hsD, hnD⟩⟩
              clear hsD hnD
              have hx := (RD.out.block _ hg5l).trans hb5.out
              obtain ⟨t0, t1, y0, y1⟩ := two_cells hx
              have hgd : g5 < wd.heap.size := (Array.getElem?_eq_some_iff.1 hx).1
              have hset := two_set hx (.bool sD) (.slice oD kD cD)
              have hgr : wd.grownBy ((wd.setCell ⟨g5, 0, none⟩ (.bool sD)).setCell ⟨g5, 1, none⟩ (.slice oD kD cD)) (some g5) := growSet (growSet (growRefl _ _) _ _) _ _
              have HZ4 := Kept.mk ((HZD.out.keep hx (fun i m e => by rcases i with _ | _ | i <;> simp at e) hgr).mono (show max (10000 * (n - 1) + 2700 + i) (64 + 10000 * i) + 1 ≤ 10000 * (n - 1) + 2700 + (i + 1) by omega))
              have HB4 := Kept.mk ((((hbw.out.trans (RD.out.mono hbw.out.size))).setCell (p := ⟨g5, 0, none⟩) (by simp only []; omega) (.bool sD)).setCell (p := ⟨g5, 1, none⟩) (by simp only []; omega) (.slice oD kD cD))
              have HS4 := Kept.mk hset
              have H44 := Kept.mk ((hgr.block _ (by have := RD.out.size; omega) (by simp; omega)).trans ((RD.out.block _ (by omega)).trans hb4.out))
              clear hbd hset hgr
              refine hK.out _ _ trivial (fun hHeld => ?_)
              clear hK K
              try simp only [Act.put, List.getElem_toArray, List.getElem_cons_succ, List.getElem_cons_zero, List.setIfInBounds_toArray, List.set_cons_zero, List.set_cons_succ]
              refine wpAnyH_ready (rs := [8]) (by kernel_rfl) (by simp) ?_
              refine (AllReadyH.cons rfl (fun K hK => ?_) AllReadyH.nil)
              go_simp
              refine hK.out _ _ trivial (fun hHeld => ?_)
              clear hK K
              try simp only [Act.put, List.getElem_toArray, List.getElem_cons_succ, List.getElem_cons_zero, List.setIfInBounds_toArray, List.set_cons_zero, List.set_cons_succ]
              refine wpAnyH_done (by kernel_rfl) ?_ _
              go_wp2
              go_roundw
              case rel => exact ⟨i + 1, sD, oD, kD, cD, by omega, by omega, by go_num, HB4, H44, HS4, by rw [HNX.out]; exact HZ4⟩
              case measure => simp [intOf] <;> omega
            · go_simp
              refine (HREC.out _).mono ?_
              rintro e wb ⟨hbb, vb, rfl, hzb⟩
              have RB := Kept.mk (bstep RA.out hbb)
              obtain ⟨sB, svB, rfl, hsB, hnB⟩ := hzb
              obtain ⟨oB, kB, cB, rfl, _, _⟩ := hnB.form
              have HZB : Kept (ZV (10000 * i) wb (.agg #[.bool sB, .slice oB kB cB]) (fi)) := ⟨⟨_, _, rfl, hsB, hnB⟩⟩
              clear hsB hnB
              have HZA2 := Kept.mk (HZA.out.below hbb)
              have x0 := belowCell RB.out q0
              have x1 := belowCell RB.out q1
              clear hbb
              refine hK.out _ _ trivial (fun hHeld => ?_)
              clear hK K
              try simp only [Act.put, List.getElem_toArray, List.getElem_cons_succ, List.getElem_cons_zero, List.setIfInBounds_toArray, List.set_cons_zero, List.set_cons_succ]
              refine wpAnyH_ready (rs := [0, 6]) (by kernel_rfl) (by simp) ?_
              refine AllReadyH.cons rfl (fun K hK => ?_) (AllReadyH.cons rfl (fun K hK => ?_) AllReadyH.nil)
              · go_simp
                refine hK.out _ _ trivial (fun hHeld => ?_)
                clear hK K
                try simp only [Act.put, List.getElem_toArray, List.getElem_cons_succ, List.getElem_cons_zero, List.setIfInBounds_toArray, List.set_cons_zero, List.set_cons_succ]
                refine wpAnyH_ready (rs := [6]) (by kernel_rfl) (by simp) ?_
                refine (AllReadyH.cons rfl (fun K hK => ?_) AllReadyH.nil)
                go_simp
                refine (rmulz_any HZA2.out HZB.out (by omega) (by omega)).mono ?_
                rintro e wc ⟨hbc, vc, rfl, hzc⟩
                have RC := Kept.mk (bstep RB.out hbc)
                obtain ⟨sC, svC, rfl, hsC, hnC⟩ := hzc
                obtain ⟨oC, kC, cC, rfl, _, _⟩ := hnC.form
                have HZC : Kept (ZV (64 + 10000 * i) wc (.agg #[.bool sC, .slice oC kC cC]) ((i : Int) * fi)) := ⟨⟨_, _, rfl, hsC, hnC⟩⟩
                clear hsC hnC
                have x0 := belowCell RC.out q0
                have x1 := belowCell RC.out q1
                clear hbc
                refine hK.out _ _ trivial (fun hHeld => ?_)
                clear hK K
                try simp only [Act.put, List.getElem_toArray, List.getElem_cons_succ, List.getElem_cons_zero, List.setIfInBounds_toArray, List.set_cons_zero, List.set_cons_succ]
                refine wpAnyH_ready (rs := [7]) (by kernel_rfl) (by simp) ?_
                refine (AllReadyH.cons rfl (fun K hK => ?_) AllReadyH.nil)
                go_simp
                refine (rsubz_any (HZS.out.below RC.out) HZC.out (by omega) (by omega)).mono ?_
                rintro e wd ⟨hbd, vd, rfl, hzd⟩
                have RD := Kept.mk (bstep RC.out hbd)
                obtain ⟨sD, svD, rfl, hsD, hnD⟩ := hzd
                obtain ⟨oD, kD, cD, rfl, _, _⟩ := hnD.form
                have HZD : Kept (ZV (max (10000 * (n - 1) + 2700 + i) (64 + 10000 * i) + 1) wd (.agg #[.bool sD, .slice oD kD cD]) (sm - (i : Int) * fi)) := ⟨⟨_, _, rfl, hsD, hnD⟩⟩
                clear hsD hnD
                have hx := (RD.out.block _ hg5l).trans hb5.out
                obtain ⟨t0, t1, y0, y1⟩ := two_cells hx
                have hgd : g5 < wd.heap.size := (Array.getElem?_eq_some_iff.1 hx).1
                have hset := two_set hx (.bool sD) (.slice oD kD cD)
                have hgr : wd.grownBy ((wd.setCell ⟨g5, 0, none⟩ (.bool sD)).setCell ⟨g5, 1, none⟩ (.slice oD kD cD)) (some g5) := growSet (growSet (growRefl _ _) _ _) _ _
                have HZ4 := Kept.mk ((HZD.out.keep hx (fun i m e => by rcases i with _ | _ | i <;> simp at e) hgr).mono (show max (10000 * (n - 1) + 2700 + i) (64 + 10000 * i) + 1 ≤ 10000 * (n - 1) + 2700 + (i + 1) by omega))
                have HB4 := Kept.mk ((((hbw.out.trans (RD.out.mono hbw.out.size))).setCell (p := ⟨g5, 0, none⟩) (by simp only []; omega) (.bool sD)).setCell (p := ⟨g5, 1, none⟩) (by simp only []; omega) (.slice oD kD cD))
                have HS4 := Kept.mk hset
                have H44 := Kept.mk ((hgr.block _ (by have := RD.out.size; omega) (by simp; omega)).trans ((RD.out.block _ (by omega)).trans hb4.out))
                clear hbd hset hgr
                refine hK.out _ _ trivial (fun hHeld => ?_)
                clear hK K
                try simp only [Act.put, List.getElem_toArray, List.getElem_cons_succ, List.getElem_cons_zero, List.setIfInBounds_toArray, List.set_cons_zero, List.set_cons_succ]
                refine wpAnyH_ready (rs := [8]) (by kernel_rfl) (by simp) ?_
                refine (AllReadyH.cons rfl (fun K hK => ?_) AllReadyH.nil)
                go_simp
                refine hK.out _ _ trivial (fun hHeld => ?_)
                clear hK K
                try simp only [Act.put, List.getElem_toArray, List.getElem_cons_succ, List.getElem_cons_zero, List.setIfInBounds_toArray, List.set_cons_zero, List.set_cons_succ]
                refine wpAnyH_done (by kernel_rfl) ?_ _
                go_wp2
                go_roundw
                case rel => exact ⟨i + 1, sD, oD, kD, cD, by omega, by omega, by go_num, HB4, H44, HS4, by rw [HNX.out]; exact HZ4⟩
                case measure => simp [intOf] <;> omega
              · go_simp
                refine (rmulz_any HZA2.out HZB.out (by omega) (by omega)).mono ?_
                rintro e wc ⟨hbc, vc, rfl, hzc⟩
                have RC := Kept.mk (bstep RB.out hbc)
                obtain ⟨sC, svC, rfl, hsC, hnC⟩ := hzc
                obtain ⟨oC, kC, cC, rfl, _, _⟩ := hnC.form
                have HZC : Kept (ZV (64 + 10000 * i) wc (.agg #[.bool sC, .slice oC kC cC]) ((i : Int) * fi)) := ⟨⟨_, _, rfl, hsC, hnC⟩⟩
                clear hsC hnC
                have x0 := belowCell RC.out q0
                have x1 := belowCell RC.out q1
                clear hbc
                refine hK.out _ _ trivial (fun hHeld => ?_)
                clear hK K
                try simp only [Act.put, List.getElem_toArray, List.getElem_cons_succ, List.getElem_cons_zero, List.setIfInBounds_toArray, List.set_cons_zero, List.set_cons_succ]
                refine wpAnyH_ready (rs := [0]) (by kernel_rfl) (by simp) ?_
                refine (AllReadyH.cons rfl (fun K hK => ?_) AllReadyH.nil)
                go_simp
                refine hK.out _ _ trivial (fun hHeld => ?_)
                clear hK K
                try simp only [Act.put, List.getElem_toArray, List.getElem_cons_succ, List.getElem_cons_zero, List.setIfInBounds_toArray, List.set_cons_zero, List.set_cons_succ]
                refine wpAnyH_ready (rs := [7]) (by kernel_rfl) (by simp) ?_
                refine (AllReadyH.cons rfl (fun K hK => ?_) AllReadyH.nil)
                go_simp
                refine (rsubz_any (HZS.out.below RC.out) HZC.out (by omega) (by omega)).mono ?_
                rintro e wd ⟨hbd, vd, rfl, hzd⟩
                have RD := Kept.mk (bstep RC.out hbd)
                obtain ⟨sD, svD, rfl, hsD, hnD⟩ := hzd
                obtain ⟨oD, kD, cD, rfl, _, _⟩ := hnD.form
                have HZD : Kept (ZV (max (10000 * (n - 1) + 2700 + i) (64 + 10000 * i) + 1) wd (.agg #[.bool sD, .slice oD kD cD]) (sm - (i : Int) * fi)) := ⟨⟨_, _, rfl, hsD, hnD⟩⟩
                clear hsD hnD
                have hx := (RD.out.block _ hg5l).trans hb5.out
                obtain ⟨t0, t1, y0, y1⟩ := two_cells hx
                have hgd : g5 < wd.heap.size := (Array.getElem?_eq_some_iff.1 hx).1
                have hset := two_set hx (.bool sD) (.slice oD kD cD)
                have hgr : wd.grownBy ((wd.setCell ⟨g5, 0, none⟩ (.bool sD)).setCell ⟨g5, 1, none⟩ (.slice oD kD cD)) (some g5) := growSet (growSet (growRefl _ _) _ _) _ _
                have HZ4 := Kept.mk ((HZD.out.keep hx (fun i m e => by rcases i with _ | _ | i <;> simp at e) hgr).mono (show max (10000 * (n - 1) + 2700 + i) (64 + 10000 * i) + 1 ≤ 10000 * (n - 1) + 2700 + (i + 1) by omega))
                have HB4 := Kept.mk ((((hbw.out.trans (RD.out.mono hbw.out.size))).setCell (p := ⟨g5, 0, none⟩) (by simp only []; omega) (.bool sD)).setCell (p := ⟨g5, 1, none⟩) (by simp only []; omega) (.slice oD kD cD))
                have HS4 := Kept.mk hset
                have H44 := Kept.mk ((hgr.block _ (by have := RD.out.size; omega) (by simp; omega)).trans ((RD.out.block _ (by omega)).trans hb4.out))
                clear hbd hset hgr
                refine hK.out _ _ trivial (fun hHeld => ?_)
                clear hK K
                try simp only [Act.put, List.getElem_toArray, List.getElem_cons_succ, List.getElem_cons_zero, List.setIfInBounds_toArray, List.set_cons_zero, List.set_cons_succ]
                refine wpAnyH_ready (rs := [8]) (by kernel_rfl) (by simp) ?_
                refine (AllReadyH.cons rfl (fun K hK => ?_) AllReadyH.nil)
                go_simp
                refine hK.out _ _ trivial (fun hHeld => ?_)
                clear hK K
                try simp only [Act.put, List.getElem_toArray, List.getElem_cons_succ, List.getElem_cons_zero, List.setIfInBounds_toArray, List.set_cons_zero, List.set_cons_succ]
                refine wpAnyH_done (by kernel_rfl) ?_ _
                go_wp2
                go_roundw
                case rel => exact ⟨i + 1, sD, oD, kD, cD, by omega, by omega, by go_num, HB4, H44, HS4, by rw [HNX.out]; exact HZ4⟩
                case measure => simp [intOf] <;> omega
        · have e0 : ((r : Int) == 0) = false := by rw [beq_eq_false_iff_ne]; omega
          rw [if_neg h0] at hds
          have HNX : Kept (ZV (10000 * (n - 1) + 2700 + (i + 1)) wr (.agg #[.bool s, .slice ro rk rc]) (qn - FFld.dsum (FFld.irrs q) n (i + 1 - 1))) := ⟨by rw [Nat.add_sub_cancel, hds]; exact hZ.out.mono (by omega)⟩
          clear hr h0 hds hsm
          go_wp2
          go_roundw
          case rel => exact ⟨i + 1, s, ro, rk, rc, by omega, by omega, by go_num, hbw, hb4, hb5, HNX⟩
          case measure => simp [intOf] <;> omega
      · obtain rfl : i = n := by omega
        have HZQ : Kept (ZV (10000 * (i - 1) + 2700 + i) wr (.agg #[.bool s, .slice ro rk rc]) (FFld.irrs q i * (i : Int))) := ⟨by rw [Int.mul_comm, HRF.out]; exact hZ.out⟩
        have h4 := hb4.out
        clear hZ hsm
        go_wp2
        go_region_held3 (fun w' => w'.cell? ⟨g5, 0, none⟩ = some (.bool s) ∧ w'.cell? ⟨g5, 1, none⟩ = some (.slice ro rk rc))
          (first | exact ⟨l0, l1⟩ | exact ⟨k0, k1⟩ | exact ⟨j0, j1⟩ | exact ⟨q0, q1⟩ | go_keep)
          ((first
            | (go_at_call 10; (with_reducible refine (HO2.out _).mono ?_); rintro e wa ⟨hba, va, rfl, sA, svA, rfl, hsA, hnA⟩; obtain ⟨oA, kA, cA, rfl, _, _⟩ := hnA.form; have RA : Kept (Below wr.heap.size wr wa) := ⟨by first | exact (Below.refl _ _).drew.trans hba | exact hba⟩; have HZA : Kept (ZV 64 wa (.agg #[.bool sA, .slice oA kA cA]) i) := ⟨⟨_, _, rfl, hsA, hnA⟩⟩; have j0 := belowCell RA.out q0; have j1 := belowCell RA.out q1; clear hba hsA hnA)
            | (go_at_call 25; (refine (rquo_any (HZQ.out.below RA.out) HZA.out (by omega) (by omega) (by omega)).mono ?_); rintro e wb ⟨hbb, vb, rfl, sB, svB, rfl, hsB, hnB⟩; obtain ⟨oB, kB, cB, rfl, _, _⟩ := hnB.form; have RB := Kept.mk (bstep RA.out hbb); have HZB : Kept (ZV (10000 * (i - 1) + 2700 + i) wb (.agg #[.bool sB, .slice oB kB cB]) (FFld.irrs q i)) := ⟨⟨_, _, rfl, hsB, hnB⟩⟩; have k0 := belowCell RB.out q0; have k1 := belowCell RB.out q1; have hx4 := (RB.out.block _ (by omega)).trans h4; obtain ⟨n0, n1, y0, y1⟩ := two_cells hx4; have hw4 : w.heap.size < wb.heap.size := (Array.getElem?_eq_some_iff.1 hx4).1; have hgr : wb.grownBy ((wb.setCell ⟨w.heap.size, 0, none⟩ (.bool sB)).setCell ⟨w.heap.size, 1, none⟩ (.slice oB kB cB)) (some w.heap.size) := growSet (growSet (growRefl _ _) _ _) _ _; have l0 := hgr.cell (a := ⟨g5, 0, none⟩) k0 (by simp; omega); have l1 := hgr.cell (a := ⟨g5, 1, none⟩) k1 (by simp; omega); clear hbb hsB hnB)))
        have hset := two_set hx4 (.bool sB) (.slice oB kB cB)
        have HI2 := Kept.mk ((HZB.out.keep hx4 (fun i m e => by rcases i with _ | _ | i <;> simp at e) hgr).mono (show 10000 * (i - 1) + 2700 + i ≤ 10000 * i by omega))
        have HB2 := Kept.mk (((hbw.out.trans (RB.out.mono hbw.out.size)).setCell (p := ⟨w.heap.size, 0, none⟩) (Nat.le_refl _) (.bool sB)).setCell (p := ⟨w.heap.size, 1, none⟩) (Nat.le_refl _) (.slice oB kB cB))
        obtain ⟨t0, t1, _⟩ := two_cells hset
        clear hset hgr
        go_wp2
        exact bodyPost_ret (v := .agg #[.bool sB, .slice oB kB cB]) (by simp [results, Tryz.results9, go_sem, t0, t1]) rfl ⟨HB2.out, _, rfl, HI2.out⟩
end Go.Proofs.YtfhhnfpapgfnmaaGreat
