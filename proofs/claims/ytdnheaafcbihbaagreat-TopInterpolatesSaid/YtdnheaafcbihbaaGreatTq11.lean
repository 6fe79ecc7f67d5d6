/-
  Texts of the proof, merged by program: TDivl TMap TLeh TGcw TLead TFore TTake TGcd TIdiv TIdiw TRat1 TRat2 TRat3 TRat4 TRat5 TRat6 TRat7 TRat8 TRmul TRadd TRops TCutz TPrat TPwm TPwx Czz.
-/
import Derived.Test.YtdnheaafcbihbaaGreatTq10
import Derived.RegionTactic
import Derived.Deep.QuietTactic
import Derived.BigQuiet
import Derived.Deep.DeepFit
import Derived.Deep.RegionHeld3
import Derived.Deep.LoopGhost
import Derived.Defers
import Derived.Recover
import Derived.Lib.IndexLaws
set_option linter.unusedSimpArgs false
set_option linter.unusedVariables false
set_option maxHeartbeats 16000000
namespace Go.Proofs.YtdnheaafcbihbaaGreat
open Go Go.RowKit
theorem size_u64 : (Tryz.prog.info? 165).map (·.size) = some 1 := by kernel_rfl
theorem Sl.parts {K : IntKind} {w : World} {v : Value} {xs : List Int} (h : Sl K w v xs) : ∃ ao cap, v = .slice ao xs.length cap /\ (0 < (xs.map (Value.int K)).length -> ∃ ad, ao = some ad /\ ∀ j u, (xs.map (Value.int K))[j]? = some u -> w.cell? (ad.add j) = some u) := by
 have h' := h
 obtain ⟨ao, cap, rfl, hc, hm, hx⟩ := h
 refine ⟨ao, cap, rfl, fun hl => ?_⟩
 obtain ⟨b, o, rfl, _, _⟩ := hx 0 (by simpa using hl)
 exact ⟨_, rfl, h'.newsT⟩
set_option maxRecDepth 20000 in
theorem divide_long {va vb : Value} {xs ys : List Int} {w : World} (ha : Sl .u64 w va xs) (hb : Sl .u64 w vb ys) (hwa : Dg.Wf BW xs) (hwb : Dg.Wf BW ys) (hna : Dg.Nz xs) (hnb : Dg.Nz ys)
 (m nq : Nat) (hy : ys.length = m + 2) (hq : xs.length = m + 1 + nq) (hge : Dg.val BW ys <= Dg.val BW xs) (hmx : xs.length <= 16000000000000) :
 Calls Tryz.prog 193 #[va, vb] w (DivRet xs.length ys.length w (Dg.val BW xs) (Dg.val BW ys)) := by
 obtain ⟨c, hc0, hc⟩ : ∃ c : Int, 0 <= c /\ Dg.sg (Dg.val BW xs) (Dg.val BW ys) = c := by
  refine ⟨_, ?_, rfl⟩
  rcases Int.lt_or_eq_of_le hge with h | h
  ·rw [Dg.sg_gt h]; omega
  ·rw [h, Dg.sg_eq]; omega
 have hcmp := compare_any ha hb hwa hwb hna hnb
 rw [hc] at hcmp
 have HA := Lib.hid ha
 have HB := Lib.hid hb
 obtain ⟨ao, acap, rfl, hacap, hamax, hax⟩ := ha
 obtain ⟨bo, bcap, rfl, hbcap, hbmax, hbx⟩ := hb
 obtain ⟨b, o, rfl, hbs, hcell⟩ := hbx (m + 1) (by omega)
 obtain ⟨y, hyy⟩ : ∃ y, y = ys[m + 1]?.getD 0 := ⟨_, rfl⟩
 have hyb := wfD hwb (m + 1)
 have hvp : 0 < Dg.val BW ys := Dg.val_pos (by decide) hwb hnb (fun e => by rw [e] at hy; simp at hy)
 have hyp : 0 < y := by
  have hne : ys ≠ [] := fun e => by rw [e] at hy; simp at hy
  have hz := hnb hne
  rw [List.getLast_eq_getElem] at hz
  have h4 : m + 1 < ys.length := by omega
  have e5 : y = ys[ys.length - 1] := by rw [hyy]; simp [h4]; congr 1; omega
  omega
 rw [<- hyy] at hcell hyb
 have hnq : 1 <= nq := by
  apply Classical.byContradiction
  intro hcon
  have := Dg.val_lt_of_len (show 1 < BW by decide) hwa hwb hnb (by omega)
  omega
 rw [hy] at hcmp HB ⊢
 rw [hq] at hcmp HA ⊢ hmx
 have HC := Lib.hid hcmp
 have HY := Lib.hid hyy
 have HYL := Lib.hid hy
 have HXL := Lib.hid hq
 have HVP := Lib.hid hvp
 have HCL := Lib.hid hcell
 have hlz := Lib.hid (lz64 y)
 have hq0 : ((0 : Int)).tdiv 64 = 0 := rfl
 clear hc hcmp hax hbx hyy hy hq hge hna hnb hamax hbmax hacap hbcap hvp hcell hq0
 go_enter Tryz.func193, Tryz.ntmps193
 go_wp2_with fail
 refine HC.out.mono ?_
 rintro e w1 ⟨hb1, rfl⟩
 have HB1 := Lib.hid hb1
 have hcl := (hb1.cell (p := ⟨b, o + (m + 1), none⟩) hbs).trans HCL.out
 clear hb1
 go_wp2_with fail
 refine (lz64 y _ hyp hyb.2).mono ?_
 rintro e w2 ⟨s, rfl, rfl, hs, hy1, hy2⟩
 have HV := Lib.hid (norm_val hwb HYL.out HY.out hs hy1 hy2)
 clear hy1 hy2 hlz
 have HT1 : Hid ((s : Int).tdiv 64 = ((0 : Nat) : Int)) := by show _ = _; rw [Int.tdiv_eq_ediv_of_nonneg (by omega)]; omega
 have HT2 : Hid ((s : Int).tmod 64 = s) := by show _ = _; rw [Int.tmod_eq_emod_of_nonneg (by omega)]; omega
 go_wp2_with fail
 refine (shiftLeft_at _ ys s 0 s _ (HB.out.below HB1.out) hwb (by omega) (by omega) HT1.out HT2.out hs (by omega) (by have := HYL.out; omega)).mono ?_
 rintro e w2 ⟨hb2, vd, rfl, hnd, hfd⟩
 obtain ⟨us, hus, hwu, hnu, hvu, hlu⟩ := hnd
 rw [Int.pow_zero, Int.mul_one] at hvu
 have hnl := norm_len hwu hnu (by rw [hvu]; exact HV.out.1) (by rw [hvu]; exact HV.out.2)
 have HU := Lib.hid hus
 have HVU := Lib.hid hvu
 have HNL := Lib.hid hnl
 have HB2 := Lib.hid (HB1.out.trans (hb2.mono HB1.out.size))
 clear hb2 hfd hnu hvu hlu hnl
 obtain ⟨do_, dk, dcap, hvd⟩ : ∃ a k c, vd = .slice a k c := by obtain ⟨a, c, e, _⟩ := hus; exact ⟨a, _, c, e⟩
 subst hvd
 clear hus
 go_wp2_with (at_make; refine wpList_make_zeros _ rfl _ _ 96 rfl 165 .u64 Tryz.underlying96 info_u64 _ _ (m + 1 + nq + 1) rfl rfl (by omega) (by omega) (by omega) ?_)
 intro w3 hrow3 hbel3
 have HB3 := Lib.hid (HB2.out.trans (hbel3.mono HB2.out.size))
 have HR3 := Lib.hid hrow3
 have HS3 := Lib.hid hbel3
 clear hrow3 hbel3
 go_wp2_with fail
 refine (shiftLeft_at _ xs s 0 s _ (HA.out.below HB3.out) hwa (by omega) (by omega) HT1.out HT2.out hs (by omega) (by have := HXL.out; omega)).mono ?_
 rintro e w4 ⟨hb4, vz, rfl, hnz, hfz⟩
 obtain ⟨zs, hzs, hwz, hnz, hvz, hlz⟩ := hnz
 rw [Int.pow_zero, Int.mul_one] at hvz
 rw [HXL.out] at hlz
 obtain ⟨zo, zcap, rfl, hpos⟩ := hzs.parts
 have hr4 := HR3.out.below hb4
 have HPOS := Lib.hid hpos
 have HVZ := Lib.hid hvz
 have HLZ : Hid (zs.length <= m + 1 + nq + 1) := hlz
 have HB4 := Lib.hid (HB3.out.trans (hb4.mono HB3.out.size))
 have HS4 := Lib.hid (HS3.out.trans (hb4.mono HS3.out.size))
 obtain ⟨cs, hcs⟩ : ∃ cs, cs = zs.map (Value.int .u64) := ⟨_, rfl⟩
 rw [<- hcs] at HPOS
 have HCS := Lib.hid hcs
 have hcl4 : cs.length = zs.length := by rw [hcs]; simp
 have HCL4 := Lib.hid hcl4
 have HONE : Hid (∀ v ∈ cs, v.oneCell' = true) := by
  intro v hv
  rw [HCS.out] at hv
  obtain ⟨a, _, rfl⟩ := List.mem_map.1 hv
  rfl
 clear hb4 hzs hnz hvz hlz hfz hpos hcs hcl4
 go_wp2_with (refine wpList_copy_splice (o := ⟨some 50, _, _, _, _, _⟩) rfl (.tmp 46) (.tmp 49) 96 96 rfl 165 Tryz.underlying96 size_u64 _ _ (m + 1 + nq + 1) _ zs.length _ rfl rfl w2.heap.size 0 ((List.replicate (m + 1 + nq + 1) (0 : Int)).map (Value.int .u64)) 165 hr4 cs (by show _ = min _ _; rw [HCL4.out]; exact (Nat.min_eq_left HLZ.out).symm) (fun h => ⟨rfl, HPOS.out (by simpa using h)⟩) (by rw [HCL4.out]; simpa using HLZ.out) HONE.out w2.heap.size w2 HS4.out (Nat.le_refl _) ?_)
 intro w5 hrow5 hbel5
 obtain ⟨T0, hT0⟩ : ∃ T0, T0 = zs ++ List.replicate (m + 1 + nq + 1 - zs.length) 0 := ⟨_, rfl⟩
 have HR5 : Hid (Row 165 .u64 w5 w2.heap.size T0) := by
  show _ = _
  rw [hrow5.out, HCS.out, splice_zeros zs _ HLZ.out, hT0]
 have HT0 : Hid (T0.length = m + 1 + nq + 1 /\ Dg.Wf BW T0 /\ Dg.val BW T0 = Dg.val BW xs * 2 ^ s) := by
  have := HLZ.out
  rw [hT0]
  exact ⟨by simp; omega, hwz.append (Dg.Wf.zeros (by decide) _), by rw [Dg.val_snoc_zeros]; exact HVZ.out⟩
 have HS5 := Lib.hid hbel5
 have HB5 := Lib.hid (HB2.out.trans (hbel5.mono HB2.out.size))
 clear hrow5 hbel5 hT0 hr4
 go_wp2_with (at_make; refine wpList_make_zeros _ rfl _ _ 96 rfl 165 .u64 Tryz.underlying96 info_u64 _ _ nq rfl rfl (by omega) (by omega) (by omega) ?_)
 intro w6 hrow6 hbel6
 have hg5 := HR5.out.lt
 have HR6 := Lib.hid (HR5.out.below hbel6)
 have HS6 := Lib.hid (HS5.out.trans (hbel6.mono (Nat.le_of_lt (by simpa using hg5))))
 have HQ6 := Lib.hid hrow6
 have HB6 := Lib.hid (HB5.out.trans (hbel6.mono HB5.out.size))
 clear hrow6 hbel6
 go_wp2
 have hgb : w2.heap.size < w5.heap.size := hg5
 have HAT0 : Hid (DvAt (Dg.val BW xs * 2 ^ s) (Dg.val BW ys * 2 ^ s) T0 (List.replicate nq 0) nq) :=
  DvAt.start HT0.out.2.1 HT0.out.2.2 (dv_fits (la := m + 1 + nq) (by have := Dg.val_lt (show (0 : Int) < BW by decide) hwa; rw [HXL.out] at this; exact this) (Dg.val_nonneg (by decide) hwa) hs HV.out.1 rfl)
 go_loopw [11] (fun i wr => ∃ (k : Nat) (j : Int) (T Q : List Int), k <= nq /\ Hid (j + 1 = k) /\ i = .int .i64 j /\ Hid (DvAt (Dg.val BW xs * 2 ^ s) (Dg.val BW ys * 2 ^ s) T Q k) /\ Hid (T.length = m + 1 + nq + 1) /\ Hid (Q.length = nq) /\ Hid (Row 165 .u64 wr w2.heap.size T) /\ Hid (Row 165 .u64 wr w5.heap.size Q) /\ Hid (Below w2.heap.size w2 wr)) (fun i _ => (intOf i + 1).toNat)
 case atStart => exact ⟨nq, _, T0, _, Nat.le_refl _, by show _ - (1 : Int) + 1 = _; omega, rfl, HAT0.out, HT0.out.1, by show (List.replicate nq (0 : Int)).length = nq; simp, HR6.out, HQ6.out, HS6.out⟩
 case round =>
  obtain ⟨k, j, T, Q, hk, hj, rfl, hat, htl, hql, hrt, hrq, hbl⟩ := hrel
  by_cases h0 : 0 < k
  ·obtain ⟨k, rfl⟩ : ∃ j, k = j+1 := ⟨k - 1, by omega⟩
   obtain rfl : j = (k : Int) := by have := hj.out; omega
   clear hj
   obtain ⟨P, hP⟩ : ∃ P, P = T.take k := ⟨_, rfl⟩
   obtain ⟨M, hM⟩ : ∃ M, M = (T.drop k).take (m + 3) := ⟨_, rfl⟩
   obtain ⟨S, hS⟩ : ∃ S, S = T.drop (k + (m + 3)) := ⟨_, rfl⟩
   have hT : T = P ++ M ++ S := by rw [hP, hM, hS]; exact (Dg.three T k (m + 3)).symm
   have hPl : P.length = k := by rw [hP]; simp [htl.out]; omega
   have hMl : M.length = m + 3 := by rw [hM]; simp [htl.out]; omega
   have hwt := hat.out.wt
   have hwP : Dg.Wf BW P := by rw [hP]; exact hwt.take _
   have hwM : Dg.Wf BW M := by rw [hM]; exact (hwt.drop _).take _
   have hwS : Dg.Wf BW S := by rw [hS]; exact hwt.drop _
   rw [hT] at hat hrt htl
   have HD : Hid (Dg.val BW ys * 2 ^ s <= BW ^ (m + 2)) := Int.le_of_lt HV.out.2
   have HWN := Lib.hid (hat.out.window hPl hMl HD.out hwP hwM hwS)
   have htm := takeMultiple_any w2.heap.size (m + 1 + nq + 1 - k) m P M S us _ w2 wr HU.out hbl.out (Nat.le_refl _) hrt.out HNL.out.1 hMl hwM hwu HNL.out.2 (by rw [HVU.out]; exact HWN.out.2.2) (by omega)
   rw [hPl, show m + 3 = k + (m + 2) + 1 - k by omega] at htm
   have HTM := Lib.hid htm
   have HPL := Lib.hid hPl
   have HML := Lib.hid hMl
   clear hP hM hS hT hPl hMl hwt htm
   have j1 : IntKind.i64.wrap ((k : Int) + ((m : Int) + 2)) = (k : Int) + ((m : Int) + 2) := by rw [IntKind.wrap_i64]; omega
   have j2 : IntKind.i64.wrap ((k : Int) + ((m : Int) + 2) + 1) = (k : Int) + ((m : Int) + 2) + 1 := by rw [IntKind.wrap_i64]; omega
   go_wp2_with fail
   ((with_reducible refine HTM.out.mono ?_))
   rintro e w7 ⟨q, M', rfl, hr7, hg7, hl7, hw7, q0, q1, he7, hlt7⟩
   have HQ7 : Hid (Row 165 .u64 w7 w5.heap.size Q) := hrq.out.keep (hg7.block _ hrq.out.lt (by simp; omega))
   have hcz := HQ7.out.cell (i := k) (by rw [hql.out]; omega)
   have hfz := HQ7.out.free k
   have hs7 := hg7.size
   have hB7 := Lib.hid ((hbl.out.grown hg7 hbl.out.size (fun j hj => by simp at hj; omega)))
   rw [HVU.out] at he7 hlt7
   have HN7 := Lib.hid (hat.out.next HPL.out HML.out (hl7.trans HML.out) HD.out hwP hwM hw7 hwS (by rw [hql.out]; omega) q0 q1 he7 hlt7)
   have HR7 := Lib.hid hr7
   have HTL7 : Hid ((P ++ M' ++ S).length = m + 1 + nq + 1) := by have := htl.out; simp only [List.length_append] at this ⊢; show _ = _; omega
   clear hr7 hg7 hl7 he7 hlt7
   go_wp2
   go_roundw
   case rel => exact ⟨k, (k : Int) - 1, P ++ M' ++ S, Q.set k q, by omega, by show _ - (1 : Int) + 1 = _; omega, by first | rfl | go_num, HN7.out, HTL7.out, by show (Q.set k q).length = nq; rw [List.length_set]; exact hql.out, HR7.out.setOther _ (by simp; omega), HQ7.out.set k q, hB7.out.setCell (by simp; omega) _⟩
   case measure => simp [intOf] <;> omega
  ·obtain rfl : k = 0 := by omega
   obtain rfl : j = -1 := by have := hj.out; omega
   have HDN := Lib.hid (hat.out.done HVP.out)
   have hSq := hrq.out.slAll (n := nq) (cap := nq) hql.out.symm (Nat.le_refl _) (by unfold maxLen; omega)
   have hSt := hrt.out.slAll (n := m + 1 + nq + 1) (cap := m + 1 + nq + 1) htl.out.symm (Nat.le_refl _) (by unfold maxLen; omega)
   have hwq := hat.out.wq
   have hwt := hat.out.wt
   have HSQ := Lib.hid hSq
   have HST := Lib.hid hSt
   clear hSq hSt hj
   go_wp2_with fail
   refine (cut_num HSQ.out hwq).mono ?_
   rintro e w7 ⟨v7, rfl, rfl, hn7, hob7⟩
   have HN7 := Lib.hid hn7
   have HO7 := Lib.hid hob7
   clear hn7 hob7
   go_wp2_with fail
   refine (cut_num HST.out hwt).mono ?_
   rintro e w8 ⟨v8, rfl, rfl, hn8, hob8⟩
   obtain ⟨ts, hts, hwts, _, hvts, hlts⟩ := hn8
   have HVT := Lib.hid hvts
   have HLT := Lib.hid hlts
   have HTS := Lib.hid hts
   clear hob8 hvts hlts hts
   go_wp2_with fail
   refine (shiftRight_at v8 ts s 0 s _ HTS.out hwts (by omega) (by omega) HT1.out HT2.out hs (by have := HLT.out; have := htl.out; omega)).mono ?_
   rintro e w9 ⟨hb9, v9, rfl, hn9, hf9⟩
   have HN9 := Lib.hid hn9
   have HF9 := Lib.hid hf9
   have HB9 := Lib.hid hb9
   clear hb9 hn9 hf9
   go_wp2
   go_ret2
   have eR : Dg.val BW ts / (BW ^ 0 * 2 ^ s) = Dg.val BW xs % Dg.val BW ys := by
    rw [HVT.out, Int.pow_zero, Int.one_mul]; exact HDN.out.2
   have hw2 := hbl.out.size
   refine ⟨HB2.out.trans (((hbl.out).trans (HB9.out.mono hw2)).mono HB2.out.size), _, _, rfl, ?_, ?_, ?_, ?_⟩
   ·have h1 := HN7.out.below HB9.out
    rw [HDN.out.1, hql.out] at h1
    exact h1.mono (by omega)
   ·have h1 := HN9.out
    rw [eR] at h1
    refine h1.fit ?_
    have h2 := Int.emod_lt_of_pos (Dg.val BW xs) HVP.out
    have h3 := Dg.val_lt (show (0 : Int) < BW by decide) hwb
    rw [HYL.out] at h3
    exact Int.lt_trans h2 h3
   ·exact ((Frm.mk (Nat.le_refl _)).of HO7.out).mono HB5.out.size
   ·exact HF9.out.mono (Nat.le_trans HB2.out.size hw2)
end Go.Proofs.YtdnheaafcbihbaaGreat
namespace Go.Proofs.YtdnheaafcbihbaaGreat
open Go Go.RowKit
theorem divide_num {La Lb : Nat} {va vb : Value} {m n : Int} {w : World} (ha : Num La w va m) (hb : Num Lb w vb n) (hn : 0 < n) (hL : La <= 16000000000000) :
 Calls Tryz.prog 193 #[va, vb] w (DivRet La Lb w m n) := by
 by_cases hlt : m < n
 ·exact divide_less ha hb hlt (by omega)
 ·obtain ⟨ys, b1, b2, b3, hby, b5⟩ := hb
  have hnb : n < 18446744073709551616 ^ Lb := by rw [<- hby]; exact Int.lt_of_lt_of_le (Dg.val_lt (show (0 : Int) < BW by decide) b2) (Dg.pow_mono (show (0 : Int) < BW by decide) b5)
  rcases ys with _ | ⟨y, _ | ⟨y2, yt⟩⟩
  ·simp [Dg.val] at hby; omega
  ·rw [Dg.val_one] at hby
   subst hby
   have h2 := b2 y (by simp)
   exact (divide_one ha b1 hn h2.2 (by omega) (by omega)).mono fun e w' ⟨h1, q, r, h2, h3, h4, h5⟩ => ⟨h1, q, r, h2, h3, h4.mono b5, h5⟩
  ·obtain ⟨xs, a1, a2, a3, hax, a5⟩ := ha
   have hlen : (y2 :: yt).length + 1 <= xs.length := by
    apply Classical.byContradiction
    intro hc
    have := Dg.val_lt_of_len (show 1 < BW by decide) a2 b2 b3 (by simp only [List.length_cons] at hc ⊢; omega)
    omega
   simp only [List.length_cons] at hlen
   have := divide_long a1 b1 a2 b2 a3 b3 yt.length (xs.length - (yt.length + 1)) (by simp) (by omega) (by omega) (by omega)
   rw [hax, hby] at this
   exact this.mono fun e w' ⟨h1, q, r, h2, h3, h4, h5⟩ => ⟨h1, q, r, h2, h3.mono a5, h4.mono b5, h5⟩
end Go.Proofs.YtdnheaafcbihbaaGreat
namespace Go.Proofs.YtdnheaafcbihbaaGreat
open Go Go.RowKit
structure MaAt (xs ys T : List Int) (n : Nat) (x y : Int) (k : Nat) (cA cB bo : Int) : Prop where
 len : T.length = n
 wf : Dg.Wf BW T
 a0 : 0 <= cA
 a1 : cA < 18446744073709551616
 b0 : 0 <= cB
 b1 : cB < 18446744073709551616
 o0 : 0 <= bo
 o1 : bo <= 1
 eq : Dg.val BW (T.take k) + BW ^ k * (cA - cB - bo) = Dg.val BW (xs.take k) * x - Dg.val BW (ys.take k) * y
end Go.Proofs.YtdnheaafcbihbaaGreat
namespace Go.Proofs.YtdnheaafcbihbaaGreat.Leh
structure At (A B : Int) (neg : Bool) (f s a1 b1 na nb : Int) : Prop where
 f0 : 0 <= s
 fs : s <= f
 ea : nb * f + b1 * s = A
 eb : na * f + a1 * s = B
 det : a1 * nb - b1 * na = if neg then -1 else 1
 a0 : 0 <= a1
 b0 : 0 <= b1
 n0 : 0 <= na
 m0 : 1 <= nb
 le : na <= nb
 ge : b1 <= nb
 or : a1 <= b1 \/ (neg = false /\ a1 = 1 /\ b1 = 0 /\ na = 0 /\ nb = 1)
structure Good (A B : Int) (neg : Bool) (a0 b0 a1 b1 p f : Int) : Prop where
 ea : b1 * p + b0 * f = A
 eb : a1 * p + a0 * f = B
 det : a0 * b1 - b0 * a1 = if neg then 1 else -1
 h0 : 0 <= a0
 h1 : 1 <= b0
 h2 : 0 <= a1
 h3 : 1 <= b1
 l0 : a0 <= b0
 l1 : a1 <= b1
 c0 : b1 <= f
 c1 : b0 + b1 <= p - f
def newA (neg : Bool) (a0 b0 a b : Int) : Int := if neg then a * a0 - b * b0 else b * b0 - a * a0
def newB (neg : Bool) (a1 b1 a b : Int) : Int := if neg then b * b1 - a * a1 else a * a1 - b * b1
theorem lin {H a0 b0 a1 b1 p f x y A B a b : Int} (ha : a = A * H + x) (hb : b = B * H + y) (ea : b1 * p + b0 * f = A) (eb : a1 * p + a0 * f = B) :
 (a * a1 - b * b1 = -(f * H * (a0 * b1 - b0 * a1)) + (x * a1 - y * b1)) /\ (b * b0 - a * a0 = -(p * H * (a0 * b1 - b0 * a1)) + (y * b0 - x * a0)) := by
 subst ha; subst hb; subst ea; subst eb
 simp only [Int.mul_sub, Int.add_mul, Int.mul_add, Int.mul_comm, Int.mul_left_comm, Int.mul_assoc]
 omega
end Go.Proofs.YtdnheaafcbihbaaGreat.Leh
namespace Go.Proofs.YtdnheaafcbihbaaGreat
open Go Go.RowKit
def LwRet (w : World) (a b : Int) (e : Ending) (w' : World) : Prop := Below w.heap.size w w' /\ ∃ A B H x y : Int, e = .returned (.tuple #[.int .u64 A, .int .u64 B]) /\ 0 < H /\ a = A * H + x /\ 0 <= x /\ x < H /\ b = B * H + y /\ 0 <= y /\ y < H /\ 0 <= B /\ B <= A /\ A < 18446744073709551616
abbrev stc (a0 b0 a1 b1 : Int) (neg : Bool) : Array Value := #[.int .u64 a0, .int .u64 b0, .int .u64 a1, .int .u64 b1, .bool neg]
structure FsAt (A B : Int) (neg : Bool) (f s a0 b0 a1 b1 na nb : Int) : Prop where
 at_ : Leh.At A B neg f s a1 b1 na nb
 z0 : 0 <= a0
 z1 : a0 <= B
 z2 : 0 <= b0
 z3 : b0 <= A
 z4 : a1 <= B \/ a1 = 1
 z5 : b1 <= A
 z6 : na <= B
 z7 : nb <= A \/ nb = 1
 good : b0 = 0 \/ ∃ p, Leh.Good A B neg a0 b0 a1 b1 p f
def FsRet (w : World) (A B : Int) (e : Ending) (w' : World) : Prop := Below w.heap.size w w' /\ ∃ (a0 b0 a1 b1 : Int) (neg : Bool), e = .returned (.agg (stc a0 b0 a1 b1 neg)) /\
 0 <= a0 /\ a0 < 18446744073709551616 /\ 0 <= b0 /\ b0 < 18446744073709551616 /\ 0 <= a1 /\ a1 < 18446744073709551616 /\ 0 <= b1 /\ b1 < 18446744073709551616 /\ (b0 = 0 \/ ∃ p f, Leh.Good A B neg a0 b0 a1 b1 p f)
def TkRet (L : Nat) (w : World) (a b : Int) (e : Ending) (w' : World) : Prop := Below w.heap.size w w' /\ ∃ va vb, e = .returned (.tuple #[va, vb]) /\ Num L w' va a /\ Num L w' vb b
def GcAt (L : Nat) (W0 wr : World) (G : Int) (s0 s1 : Value) (a b : Int) : Prop := Num L wr s0 a /\ Num L wr s1 b /\ b <= a /\ (Int.gcd a b : Int) = G /\ Below W0.heap.size W0 wr
def IdRet (L : Nat) (w : World) (z y : Int) (e : Ending) (w' : World) : Prop := Below w.heap.size w w' /\ ∃ q r, e = .returned (.tuple #[q, r, .int .i64 0]) /\ IntV L w' q (z / y) /\ IntV L w' r (z % y)
theorem div_pos {z y : Int} (hz : 0 <= z) (hy : y ≠ 0) : sgn (decide (z < 0) != decide (y < 0)) (z.natAbs / y.natAbs : Int) = z / y /\ (z.natAbs % y.natAbs : Int) = z % y := by
 have e1 : (z.natAbs : Int) = z := by omega
 have e2 : decide (z < 0) = false := by simp; omega
 rw [e1, e2]
 by_cases h : y < 0
 ·have e3 : (y.natAbs : Int) = -y := by omega
  simp [h, sgn, e3]
 ·have e3 : (y.natAbs : Int) = y := by omega
  simp [h, sgn, e3]
theorem div_neg0 {z y : Int} (hz : z < 0) (hy : y ≠ 0) (hr : (z.natAbs % y.natAbs : Int) = 0) : sgn (decide (z < 0) != decide (y < 0)) (z.natAbs / y.natAbs : Int) = z / y /\ 0 = z % y := by
 have e1 : (z.natAbs : Int) = -z := by omega
 have hd := Int.mul_ediv_add_emod (z.natAbs : Int) y.natAbs
 rw [hr, Int.add_zero] at hd
 rw [e1] at hd ⊢
 have e2 : decide (z < 0) = true := by simpa using hz
 rw [e2]
 generalize hq : -z / (y.natAbs : Int) = q at *
 by_cases h : y < 0
 ·have e3 : (y.natAbs : Int) = -y := by omega
  rw [e3] at hd
  have hz2 : z = y * q := by rw [Int.neg_mul] at hd; omega
  have h3 : decide (y < 0) = true := by simpa using h
  rw [h3]
  simp only [bne_self_eq_false, sgn, Bool.false_eq_true, if_false]
  rw [hz2, Int.mul_ediv_cancel_left _ hy, Int.mul_emod_right]
  exact ⟨rfl, rfl⟩
 ·have e3 : (y.natAbs : Int) = y := by omega
  rw [e3] at hd
  have hz2 : z = y * (-q) := by rw [Int.mul_neg]; omega
  have h3 : decide (y < 0) = false := by simpa using h
  rw [h3]
  simp only [sgn, show (true != false) = true from rfl, if_true]
  rw [hz2, Int.mul_ediv_cancel_left _ hy, Int.mul_emod_right]
  exact ⟨rfl, rfl⟩
theorem div_neg1 {z y : Int} (hz : z < 0) (hy : y ≠ 0) (hr : (z.natAbs % y.natAbs : Int) ≠ 0) : sgn (decide (z < 0) != decide (y < 0)) (z.natAbs / y.natAbs + 1 : Int) = z / y /\ (y.natAbs : Int) - (z.natAbs % y.natAbs : Int) = z % y := by
 have e1 : (z.natAbs : Int) = -z := by omega
 have hd := Int.mul_ediv_add_emod (z.natAbs : Int) y.natAbs
 have h0 := Int.emod_nonneg (z.natAbs : Int) (show (y.natAbs : Int) ≠ 0 by omega)
 have h1 := Int.emod_lt_of_pos (z.natAbs : Int) (show 0 < (y.natAbs : Int) by omega)
 generalize (z.natAbs : Int) % (y.natAbs : Int) = r at *
 generalize (z.natAbs : Int) / (y.natAbs : Int) = q at *
 rw [e1] at hd
 have e2 : decide (z < 0) = true := by simpa using hz
 rw [e2]
 by_cases h : y < 0
 ·have e3 : (y.natAbs : Int) = -y := by omega
  rw [e3] at hd h1 ⊢
  have hz2 : z = (-y - r) + y * (q + 1) := by rw [Int.neg_mul] at hd; rw [Int.mul_add]; omega
  have h3 : decide (y < 0) = true := by simpa using h
  rw [h3]
  simp only [bne_self_eq_false, sgn, Bool.false_eq_true, if_false]
  rw [hz2, Int.add_mul_ediv_left _ _ hy, Int.add_mul_emod_self_left]
  have k1 : (-y - r) / y = 0 := by
   rw [<- Int.neg_neg y, Int.ediv_neg, Int.neg_neg y, Int.ediv_eq_zero_of_lt (by omega) (by omega)]; rfl
  have k2 : (-y - r) % y = -y - r := by
   rw [<- Int.emod_neg, Int.emod_eq_of_lt (by omega) (by omega)]
  rw [k1, k2]
  omega
 ·have e3 : (y.natAbs : Int) = y := by omega
  rw [e3] at hd h1 ⊢
  have hz2 : z = (y - r) + y * (-(q + 1)) := by rw [Int.mul_neg, Int.mul_add]; omega
  have h3 : decide (y < 0) = false := by simpa using h
  rw [h3]
  simp only [sgn, show (true != false) = true from rfl, if_true]
  rw [hz2, Int.add_mul_ediv_left _ _ hy, Int.add_mul_emod_self_left, Int.ediv_eq_zero_of_lt (by omega) (by omega), Int.emod_eq_of_lt (by omega) (by omega)]
  omega
theorem int_end2 {L L' : Nat} {z z' : Int} {w W : World} {g h : Nat} {s x s' x' : Bool} {ao bo ao' bo' : Option Addr} {k c k2 c2 k' c' k2' c2' : Nat} {T : TypeId}
 (hg : W.heap[g]? = some (.cells #[.bool x, .slice bo k2 c2] T (0, 0))) (hh : W.heap[h]? = some (.cells #[.bool x', .slice bo' k2' c2'] T (0, 0))) (hne : g ≠ h)
 (hb : Below w.heap.size w W) (hgw : w.heap.size <= g) (hhw : w.heap.size <= h) (hs : s = decide (z < 0)) (hn : Num L W (.slice ao k c) z.natAbs) (hs' : s' = decide (z' < 0)) (hn' : Num L' W (.slice ao' k' c') z'.natAbs) (W' : World)
 (hW : W' = (((W.setCell ⟨g, 0, none⟩ (.bool s)).setCell ⟨g, 1, none⟩ (.slice ao k c)).setCell ⟨h, 0, none⟩ (.bool s')).setCell ⟨h, 1, none⟩ (.slice ao' k' c')) :
 Below w.heap.size w W' /\ IntV L W' (.agg #[.bool s, .slice ao k c]) z /\ IntV L' W' (.agg #[.bool s', .slice ao' k' c']) z' /\
  W'.cell? ⟨g, 0, none⟩ = some (.bool s) /\ W'.cell? ⟨g, 1, none⟩ = some (.slice ao k c) /\ W'.cell? ⟨h, 0, none⟩ = some (.bool s') /\ W'.cell? ⟨h, 1, none⟩ = some (.slice ao' k' c') := by
 subst hW
 have q1 := ttwo_set hg (.bool s) (.slice ao k c)
 have hh1 : ((W.setCell ⟨g, 0, none⟩ (.bool s)).setCell ⟨g, 1, none⟩ (.slice ao k c)).heap[h]? = some (.cells #[.bool x', .slice bo' k2' c2'] T (0, 0)) := by
  rw [heap_setCell_other _ _ _ _ (by simpa using hne.symm), heap_setCell_other _ _ _ _ (by simpa using hne.symm)]; exact hh
 have q2 := ttwo_set hh1 (.bool s') (.slice ao' k' c')
 have q1' : ((((W.setCell ⟨g, 0, none⟩ (.bool s)).setCell ⟨g, 1, none⟩ (.slice ao k c)).setCell ⟨h, 0, none⟩ (.bool s')).setCell ⟨h, 1, none⟩ (.slice ao' k' c')).heap[g]? = some (.cells #[.bool s, .slice ao k c] T (0, 0)) := by
  rw [heap_setCell_other _ _ _ _ (by simpa using hne), heap_setCell_other _ _ _ _ (by simpa using hne)]; exact q1
 obtain ⟨a1, a2, _, _⟩ := ttwo_cells q1'
 obtain ⟨b1, b2, _, _⟩ := ttwo_cells q2
 exact ⟨(((hb.setCell (p := ⟨g, 0, none⟩) hgw _).setCell (p := ⟨g, 1, none⟩) hgw _).setCell (p := ⟨h, 0, none⟩) hhw _).setCell (p := ⟨h, 1, none⟩) hhw _, ⟨_, _, rfl, hs, (hn.box hg _ _).box hh1 _ _⟩, ⟨_, _, rfl, hs', (hn'.box hg _ _).box hh1 _ _⟩, a1, a2, b1, b2⟩
def Box4 (w : World) (sa sb : Bool) (ao bo : Option Addr) (ka ca kb cb : Nat) (W : World) : Prop :=
 W.heap[w.heap.size]? = some (.cells #[.bool sa, .slice ao ka ca] 98 (0, 0)) /\ W.heap[w.heap.size + 1]? = some (.cells #[.bool sb, .slice bo kb cb] 98 (0, 0)) /\
 W.heap[w.heap.size + 1 + 1]? = some (.cells #[.bool false, .slice none 0 0] 98 (0, 0)) /\ W.heap[w.heap.size + 1 + 1 + 1]? = some (.cells #[.bool false, .slice none 0 0] 98 (0, 0)) /\ Below w.heap.size w W
theorem box4 (w : World) (sa sb : Bool) (ao bo : Option Addr) (ka ca kb cb : Nat) : Box4 w sa sb ao bo ka ca kb cb ((((w.alloc (.cells #[.bool sa, .slice ao ka ca] 98)).alloc (.cells #[.bool sb, .slice bo kb cb] 98)).alloc (.cells #[.bool false, .slice none 0 0] 98)).alloc (.cells #[.bool false, .slice none 0 0] 98)) := by
 refine ⟨?_, ?_, ?_, ?_, ?_⟩
 ·exact (heap_alloc_old _ _ (by simp; omega)).trans ((heap_alloc_old _ _ (by simp; omega)).trans ((heap_alloc_old _ _ (by simp)).trans (heap_alloc_new w _)))
 ·exact (heap_alloc_old _ _ (by simp)).trans ((heap_alloc_old _ _ (by simp)).trans (theap_last _ _ _ (by simp)))
 ·exact (heap_alloc_old _ _ (by simp)).trans (theap_last _ _ _ (by simp))
 ·exact theap_last _ _ _ (by simp)
 ·exact ((((Below.refl _ _).alloc (Nat.le_refl _) _).alloc (by simp) _).alloc (by simp; omega) _).alloc (by simp; omega) _
theorem Box4.size {w W : World} {sa sb : Bool} {ao bo : Option Addr} {ka ca kb cb : Nat} (h : Box4 w sa sb ao bo ka ca kb cb W) : w.heap.size + 1 + 1 + 1 < W.heap.size := (Array.getElem?_eq_some_iff.1 h.2.2.2.1).1
theorem Box4.below {w W W' : World} {sa sb : Bool} {ao bo : Option Addr} {ka ca kb cb : Nat} (h : Box4 w sa sb ao bo ka ca kb cb W) (hb : Below W.heap.size W W') : Box4 w sa sb ao bo ka ca kb cb W' := by
 have hs := h.size
 obtain ⟨h0, h1, h2, h3, h4⟩ := h
 exact ⟨(hb.block _ (by omega)).trans h0, (hb.block _ (by omega)).trans h1, (hb.block _ (by omega)).trans h2, (hb.block _ (by omega)).trans h3, h4.trans (hb.mono (by omega))⟩
theorem Box4.ins {w W : World} {sa sb : Bool} {ao bo : Option Addr} {ka ca kb cb : Nat} (h : Box4 w sa sb ao bo ka ca kb cb W) :
 W.cell? ⟨w.heap.size, 0, none⟩ = some (.bool sa) /\ W.cell? ⟨w.heap.size, 1, none⟩ = some (.slice ao ka ca) /\ W.cell? ⟨w.heap.size + 1, 0, none⟩ = some (.bool sb) /\ W.cell? ⟨w.heap.size + 1, 1, none⟩ = some (.slice bo kb cb) :=
 ⟨(ttwo_cells h.1).1, (ttwo_cells h.1).2.1, (ttwo_cells h.2.1).1, (ttwo_cells h.2.1).2.1⟩
theorem Box4.outs {w W : World} {sa sb : Bool} {ao bo : Option Addr} {ka ca kb cb : Nat} (h : Box4 w sa sb ao bo ka ca kb cb W) :
 W.frozen? ⟨w.heap.size + 1 + 1, 0, none⟩ = false /\ W.frozen? ⟨w.heap.size + 1 + 1, 1, none⟩ = false /\ W.frozen? ⟨w.heap.size + 1 + 1 + 1, 0, none⟩ = false /\ W.frozen? ⟨w.heap.size + 1 + 1 + 1, 1, none⟩ = false /\
 W.cell? ⟨w.heap.size + 1 + 1, 0, none⟩ = some (.bool false) /\ W.cell? ⟨w.heap.size + 1 + 1, 1, none⟩ = some (.slice none 0 0) /\ W.cell? ⟨w.heap.size + 1 + 1 + 1, 0, none⟩ = some (.bool false) /\ W.cell? ⟨w.heap.size + 1 + 1 + 1, 1, none⟩ = some (.slice none 0 0) :=
 ⟨(ttwo_cells h.2.2.1).2.2.1, (ttwo_cells h.2.2.1).2.2.2, (ttwo_cells h.2.2.2.1).2.2.1, (ttwo_cells h.2.2.2.1).2.2.2, (ttwo_cells h.2.2.1).1, (ttwo_cells h.2.2.1).2.1, (ttwo_cells h.2.2.2.1).1, (ttwo_cells h.2.2.2.1).2.1⟩
set_option maxRecDepth 20000 in
theorem idiv_up {La Lb : Nat} {va vb : Value} {z y : Int} {w : World} (ha : IntV La w va z) (hb : IntV Lb w vb y) (hy : y ≠ 0) (hz : 0 <= z) (h1 : La <= 268435455) (h2 : Lb <= 268435455) :
 Calls Tryz.prog 133 #[va, vb] w (IdRet (max La Lb + 2) w z y) := by
 obtain ⟨LL, hLL⟩ : ∃ LL, LL = max La Lb + 2 := ⟨_, rfl⟩
 rw [<- hLL]
 have hb' := hb
 obtain ⟨sa, ua, rfl, hsa, hna⟩ := ha
 obtain ⟨sb, ub, rfl, hsb, hnb⟩ := hb
 obtain ⟨ao, ka, ca, rfl⟩ := hna.form
 obtain ⟨bo, kb, cb, rfl⟩ := hnb.form
 have HBX := Lib.hid (box4 w sa sb ao bo ka ca kb cb)
 have HNA := Lib.hid (hna.below HBX.out.2.2.2.2)
 have HNB := Lib.hid (hnb.below HBX.out.2.2.2.2)
 have HBI := Lib.hid (hb'.below HBX.out.2.2.2.2)
 obtain ⟨sg, hsg0, hsg⟩ : ∃ sg : Int, (sg == 0) = false /\ Dg.sg y 0 = sg := by
  refine ⟨_, ?_, rfl⟩
  rcases Int.lt_trichotomy y 0 with h | h | h
  ·rw [Dg.sg_lt h]; rfl
  ·exact absurd h hy
  ·rw [Dg.sg_gt h]; rfl
 have hsi := sign_any HBI.out
 rw [hsg] at hsi
 have HSI := Lib.hid hsi
 have hd := div_pos hz hy
 have e : sa = false := by rw [hsa]; simp; omega
 subst e
 rw [<- hsa, <- hsb, show (false != sb) = sb by cases sb <;> rfl] at hd
 have HD := Lib.hid hd
 have HY := Lib.hid hy
 have HSB := Lib.hid hsb
 clear hna hnb hb' hsg hsi hsb hy hd hsa
 go_enter Tryz.func133, Tryz.ntmps133
 go_wp2_with fail
 refine HSI.out.mono ?_
 rintro e w1 ⟨hb1, rfl⟩
 have HX1 := Lib.hid (HBX.out.below hb1)
 have HNA1 := Lib.hid (HNA.out.below hb1)
 have HNB1 := Lib.hid (HNB.out.below hb1)
 obtain ⟨ka0, ka1, ka2, ka3⟩ := HX1.out.ins
 clear hb1
 go_wp2_with fail
 refine (divide_num HNA1.out HNB1.out (by have := HY.out; omega) (by omega)).mono ?_
 rintro e w2 ⟨hb2, q, r, rfl, hq2, hr2, hfq, hfr⟩
 obtain ⟨qo, kq, cq, rfl⟩ := hq2.form
 obtain ⟨ro, kr, cr, rfl, hkr, _⟩ := hr2.form2
 have HX2 := Lib.hid (HX1.out.below hb2)
 have HNB2 := Lib.hid (HNB1.out.below hb2)
 have HQ2 := Lib.hid hq2
 have HR2 := Lib.hid hr2
 clear hb2 hq2 hr2 hfq hfr hkr ka0 ka1 ka2 ka3
 obtain ⟨kb0, kb1, kb2, kb3⟩ := HX2.out.ins
 go_wp2_with fail
 refine (signed_any (sb) HQ2.out).mono ?_
 rintro e w5 ⟨hb5, v5, rfl, s5, u5, rfl, hs5, hn5⟩
 obtain ⟨ao5, k5, c5, rfl⟩ := hn5.form
 have HX5 := Lib.hid (HX2.out.below hb5)
 have HR5 := Lib.hid (HR2.out.below hb5)
 have HS5 := Lib.hid hs5
 have HN5 := Lib.hid hn5
 clear hb5 hs5 hn5
 go_wp2_with fail
 refine (signed_any false HR5.out).mono ?_
 rintro e w6 ⟨hb6, v6, rfl, s6, u6, rfl, hs6, hn6⟩
 obtain ⟨ao6, k6, c6, rfl⟩ := hn6.form
 have HX6 := Lib.hid (HX5.out.below hb6)
 obtain ⟨f0, f1, f2, f3, g0, g1, g2, g3⟩ := HX6.out.outs
 have hz6 := HX6.out.size
 have HE := Lib.hid (fun W' => int_end2 (L := LL) (L' := LL) (z := z / y) (z' := z % y) (w := w) (s := s5) (ao := ao5) (k := k5) (c := c5) (s' := s6) (ao' := ao6) (k' := k6) (c' := c6) HX6.out.2.2.1 HX6.out.2.2.2.1 (by omega) HX6.out.2.2.2.2 (by omega) (by omega)
  (by rw [HS5.out, HD.out.1]) (by have := HN5.out.below hb6; rw [HD.out.1] at this; exact this.mono (L' := LL) (by omega))
  (by rw [hs6]; show decide (sgn false _ < 0) = _; rw [HD.out.2]; rfl) (by have := hn6; rw [HD.out.2] at this; exact this.mono (L' := LL) (by omega)) W')
 clear hb6 hs6 hn6 kb0 kb1 kb2 kb3
 go_wp2
 have hE := HE.out _ rfl
 exact bodyPost_ret (v := .tuple #[.agg #[.bool s5, .slice ao5 k5 c5], .agg #[.bool s6, .slice ao6 k6 c6], .int .i64 0]) (by simp [results, Tryz.results133, go_sem, hE.2.2.2.1, hE.2.2.2.2.1, hE.2.2.2.2.2.1, hE.2.2.2.2.2.2]) rfl ⟨hE.1, _, _, rfl, hE.2.1, hE.2.2.1⟩
set_option maxRecDepth 20000 in
theorem idiv_flat {La Lb : Nat} {va vb : Value} {z y : Int} {w : World} (ha : IntV La w va z) (hb : IntV Lb w vb y) (hy : y ≠ 0) (hz : z < 0) (hr : (z.natAbs % y.natAbs : Int) = 0) (h1 : La <= 268435455) (h2 : Lb <= 268435455) :
 Calls Tryz.prog 133 #[va, vb] w (IdRet (max La Lb + 2) w z y) := by
 obtain ⟨LL, hLL⟩ : ∃ LL, LL = max La Lb + 2 := ⟨_, rfl⟩
 rw [<- hLL]
 have hb' := hb
 obtain ⟨sa, ua, rfl, hsa, hna⟩ := ha
 obtain ⟨sb, ub, rfl, hsb, hnb⟩ := hb
 obtain ⟨ao, ka, ca, rfl⟩ := hna.form
 obtain ⟨bo, kb, cb, rfl⟩ := hnb.form
 have HBX := Lib.hid (box4 w sa sb ao bo ka ca kb cb)
 have HNA := Lib.hid (hna.below HBX.out.2.2.2.2)
 have HNB := Lib.hid (hnb.below HBX.out.2.2.2.2)
 have HBI := Lib.hid (hb'.below HBX.out.2.2.2.2)
 obtain ⟨sg, hsg0, hsg⟩ : ∃ sg : Int, (sg == 0) = false /\ Dg.sg y 0 = sg := by
  refine ⟨_, ?_, rfl⟩
  rcases Int.lt_trichotomy y 0 with h | h | h
  ·rw [Dg.sg_lt h]; rfl
  ·exact absurd h hy
  ·rw [Dg.sg_gt h]; rfl
 have hsi := sign_any HBI.out
 rw [hsg] at hsi
 have HSI := Lib.hid hsi
 have hd := (show _ /\ _ from ⟨(div_neg0 hz hy hr).1, hr.trans (div_neg0 hz hy hr).2⟩)
 have e : sa = true := by rw [hsa]; simpa using hz
 subst e
 rw [<- hsa, <- hsb, show (true != sb) = !sb by cases sb <;> rfl] at hd
 have HD := Lib.hid hd
 have HY := Lib.hid hy
 have HSB := Lib.hid hsb
 clear hna hnb hb' hsg hsi hsb hy hd hsa
 go_enter Tryz.func133, Tryz.ntmps133
 go_wp2_with fail
 refine HSI.out.mono ?_
 rintro e w1 ⟨hb1, rfl⟩
 have HX1 := Lib.hid (HBX.out.below hb1)
 have HNA1 := Lib.hid (HNA.out.below hb1)
 have HNB1 := Lib.hid (HNB.out.below hb1)
 obtain ⟨ka0, ka1, ka2, ka3⟩ := HX1.out.ins
 clear hb1
 go_wp2_with fail
 refine (divide_num HNA1.out HNB1.out (by have := HY.out; omega) (by omega)).mono ?_
 rintro e w2 ⟨hb2, q, r, rfl, hq2, hr2, hfq, hfr⟩
 obtain ⟨qo, kq, cq, rfl⟩ := hq2.form
 obtain ⟨ro, kr, cr, rfl, hkr, _⟩ := hr2.form2
 have HX2 := Lib.hid (HX1.out.below hb2)
 have HNB2 := Lib.hid (HNB1.out.below hb2)
 have HQ2 := Lib.hid hq2
 have HR2 := Lib.hid hr2
 obtain rfl : kr = 0 := hkr.2 hr
 clear hb2 hq2 hr2 hfq hfr hkr ka0 ka1 ka2 ka3
 obtain ⟨kb0, kb1, kb2, kb3⟩ := HX2.out.ins
 go_wp2_with fail
 refine (signed_any (!sb) HQ2.out).mono ?_
 rintro e w5 ⟨hb5, v5, rfl, s5, u5, rfl, hs5, hn5⟩
 obtain ⟨ao5, k5, c5, rfl⟩ := hn5.form
 have HX5 := Lib.hid (HX2.out.below hb5)
 have HR5 := Lib.hid (HR2.out.below hb5)
 have HS5 := Lib.hid hs5
 have HN5 := Lib.hid hn5
 clear hb5 hs5 hn5
 go_wp2_with fail
 refine (signed_any false HR5.out).mono ?_
 rintro e w6 ⟨hb6, v6, rfl, s6, u6, rfl, hs6, hn6⟩
 obtain ⟨ao6, k6, c6, rfl⟩ := hn6.form
 have HX6 := Lib.hid (HX5.out.below hb6)
 obtain ⟨f0, f1, f2, f3, g0, g1, g2, g3⟩ := HX6.out.outs
 have hz6 := HX6.out.size
 have HE := Lib.hid (fun W' => int_end2 (L := LL) (L' := LL) (z := z / y) (z' := z % y) (w := w) (s := s5) (ao := ao5) (k := k5) (c := c5) (s' := s6) (ao' := ao6) (k' := k6) (c' := c6) HX6.out.2.2.1 HX6.out.2.2.2.1 (by omega) HX6.out.2.2.2.2 (by omega) (by omega)
  (by rw [HS5.out, HD.out.1]) (by have := HN5.out.below hb6; rw [HD.out.1] at this; exact this.mono (L' := LL) (by omega))
  (by rw [hs6]; show decide (sgn false _ < 0) = _; rw [HD.out.2]; rfl) (by have := hn6; rw [HD.out.2] at this; exact this.mono (L' := LL) (by omega)) W')
 clear hb6 hs6 hn6 kb0 kb1 kb2 kb3
 go_wp2
 have hE := HE.out _ rfl
 exact bodyPost_ret (v := .tuple #[.agg #[.bool s5, .slice ao5 k5 c5], .agg #[.bool s6, .slice ao6 k6 c6], .int .i64 0]) (by simp [results, Tryz.results133, go_sem, hE.2.2.2.1, hE.2.2.2.2.1, hE.2.2.2.2.2.1, hE.2.2.2.2.2.2]) rfl ⟨hE.1, _, _, rfl, hE.2.1, hE.2.2.1⟩
set_option maxRecDepth 20000 in
theorem idiv_down {La Lb : Nat} {va vb : Value} {z y : Int} {w : World} (ha : IntV La w va z) (hb : IntV Lb w vb y) (hy : y ≠ 0) (hz : z < 0) (hr : (z.natAbs % y.natAbs : Int) ≠ 0) (h1 : La <= 268435455) (h2 : Lb <= 268435455) :
 Calls Tryz.prog 133 #[va, vb] w (IdRet (max La Lb + 2) w z y) := by
 obtain ⟨LL, hLL⟩ : ∃ LL, LL = max La Lb + 2 := ⟨_, rfl⟩
 rw [<- hLL]
 have hb' := hb
 obtain ⟨sa, ua, rfl, hsa, hna⟩ := ha
 obtain ⟨sb, ub, rfl, hsb, hnb⟩ := hb
 obtain ⟨ao, ka, ca, rfl⟩ := hna.form
 obtain ⟨bo, kb, cb, rfl⟩ := hnb.form
 have HBX := Lib.hid (box4 w sa sb ao bo ka ca kb cb)
 have HNA := Lib.hid (hna.below HBX.out.2.2.2.2)
 have HNB := Lib.hid (hnb.below HBX.out.2.2.2.2)
 have HBI := Lib.hid (hb'.below HBX.out.2.2.2.2)
 obtain ⟨sg, hsg0, hsg⟩ : ∃ sg : Int, (sg == 0) = false /\ Dg.sg y 0 = sg := by
  refine ⟨_, ?_, rfl⟩
  rcases Int.lt_trichotomy y 0 with h | h | h
  ·rw [Dg.sg_lt h]; rfl
  ·exact absurd h hy
  ·rw [Dg.sg_gt h]; rfl
 have hsi := sign_any HBI.out
 rw [hsg] at hsi
 have HSI := Lib.hid hsi
 have hd := div_neg1 hz hy hr
 have e : sa = true := by rw [hsa]; simpa using hz
 subst e
 rw [<- hsa, <- hsb, show (true != sb) = !sb by cases sb <;> rfl] at hd
 have HD := Lib.hid hd
 have HY := Lib.hid hy
 have HSB := Lib.hid hsb
 clear hna hnb hb' hsg hsi hsb hy hd hsa
 go_enter Tryz.func133, Tryz.ntmps133
 go_wp2_with fail
 refine HSI.out.mono ?_
 rintro e w1 ⟨hb1, rfl⟩
 have HX1 := Lib.hid (HBX.out.below hb1)
 have HNA1 := Lib.hid (HNA.out.below hb1)
 have HNB1 := Lib.hid (HNB.out.below hb1)
 obtain ⟨ka0, ka1, ka2, ka3⟩ := HX1.out.ins
 clear hb1
 go_wp2_with fail
 refine (divide_num HNA1.out HNB1.out (by have := HY.out; omega) (by omega)).mono ?_
 rintro e w2 ⟨hb2, q, r, rfl, hq2, hr2, hfq, hfr⟩
 obtain ⟨qo, kq, cq, rfl⟩ := hq2.form
 obtain ⟨ro, kr, cr, rfl, hkr, _⟩ := hr2.form2
 have HX2 := Lib.hid (HX1.out.below hb2)
 have HNB2 := Lib.hid (HNB1.out.below hb2)
 have HQ2 := Lib.hid hq2
 have HR2 := Lib.hid hr2
 have hk0 : 0 < kr := by
  apply Nat.pos_of_ne_zero
  intro hc
  exact hr (hkr.1 hc)
 clear hb2 hq2 hr2 hfq hfr hkr ka0 ka1 ka2 ka3
 obtain ⟨kb0, kb1, kb2, kb3⟩ := HX2.out.ins
 go_wp2_with fail
 refine (oneWord_any 1 _ (by omega) (by omega)).mono ?_
 rintro e w3 ⟨hb3, v3, rfl, hn3, hf3⟩
 have HN3 := Lib.hid hn3
 have HX3 := Lib.hid (HX2.out.below hb3)
 have HQ3 := Lib.hid (HQ2.out.below hb3)
 have HR3 := Lib.hid (HR2.out.below hb3)
 have HNB3 := Lib.hid (HNB2.out.below hb3)
 clear hb3 hn3 hf3 kb0 kb1 kb2 kb3
 go_wp2_with fail
 refine (sum_num HQ3.out HN3.out (by omega) (by omega)).mono ?_
 rintro e w4 ⟨hb4, v4, rfl, hn4, hf4⟩
 have HQ4 := Lib.hid hn4
 have HX4 := Lib.hid (HX3.out.below hb4)
 have HR4 := Lib.hid (HR3.out.below hb4)
 have HNB4 := Lib.hid (HNB3.out.below hb4)
 clear hb4 hn4 hf4
 obtain ⟨kb0, kb1, kb2, kb3⟩ := HX4.out.ins
 go_wp2_with fail
 refine (difference_num HNB4.out HR4.out (by omega) (Int.le_of_lt (Int.emod_lt_of_pos _ (by have := HY.out; omega)))).mono ?_
 rintro e w4' ⟨hb4', v4', rfl, hn4', hf4'⟩
 have HQ4' := Lib.hid (HQ4.out.below hb4')
 have HX4' := Lib.hid (HX4.out.below hb4')
 have HR4' := Lib.hid hn4'
 clear hb4' hn4' hf4' kb0 kb1 kb2 kb3
 obtain ⟨kb0, kb1, kb2, kb3⟩ := HX4'.out.ins
 go_wp2_with fail
 refine (signed_any (!sb) HQ4'.out).mono ?_
 rintro e w5 ⟨hb5, v5, rfl, s5, u5, rfl, hs5, hn5⟩
 obtain ⟨ao5, k5, c5, rfl⟩ := hn5.form
 have HX5 := Lib.hid (HX4'.out.below hb5)
 have HR5 := Lib.hid (HR4'.out.below hb5)
 have HS5 := Lib.hid hs5
 have HN5 := Lib.hid hn5
 clear hb5 hs5 hn5
 go_wp2_with fail
 refine (signed_any false HR5.out).mono ?_
 rintro e w6 ⟨hb6, v6, rfl, s6, u6, rfl, hs6, hn6⟩
 obtain ⟨ao6, k6, c6, rfl⟩ := hn6.form
 have HX6 := Lib.hid (HX5.out.below hb6)
 obtain ⟨f0, f1, f2, f3, g0, g1, g2, g3⟩ := HX6.out.outs
 have hz6 := HX6.out.size
 have HE := Lib.hid (fun W' => int_end2 (L := LL) (L' := LL) (z := z / y) (z' := z % y) (w := w) (s := s5) (ao := ao5) (k := k5) (c := c5) (s' := s6) (ao' := ao6) (k' := k6) (c' := c6) HX6.out.2.2.1 HX6.out.2.2.2.1 (by omega) HX6.out.2.2.2.2 (by omega) (by omega)
  (by rw [HS5.out, HD.out.1]) (by have := HN5.out.below hb6; rw [HD.out.1] at this; exact this.mono (L' := LL) (by omega))
  (by rw [hs6]; show decide (sgn false _ < 0) = _; rw [HD.out.2]; rfl) (by have := hn6; rw [HD.out.2] at this; exact this.mono (L' := LL) (by omega)) W')
 clear hb6 hs6 hn6 kb0 kb1 kb2 kb3
 go_wp2
 have hE := HE.out _ rfl
 exact bodyPost_ret (v := .tuple #[.agg #[.bool s5, .slice ao5 k5 c5], .agg #[.bool s6, .slice ao6 k6 c6], .int .i64 0]) (by simp [results, Tryz.results133, go_sem, hE.2.2.2.1, hE.2.2.2.2.1, hE.2.2.2.2.2.1, hE.2.2.2.2.2.2]) rfl ⟨hE.1, _, _, rfl, hE.2.1, hE.2.2.1⟩
theorem idiv_any {La Lb : Nat} {va vb : Value} {z y : Int} {w : World} (ha : IntV La w va z) (hb : IntV Lb w vb y) (hy : y ≠ 0) (h1 : La <= 268435455) (h2 : Lb <= 268435455) :
 Calls Tryz.prog 133 #[va, vb] w (IdRet (max La Lb + 2) w z y) := by
 by_cases hz : 0 <= z
 ·exact idiv_up ha hb hy hz h1 h2
 ·by_cases hr : (z.natAbs % y.natAbs : Int) = 0
  ·exact idiv_flat ha hb hy (by omega) hr h1 h2
  ·exact idiv_down ha hb hy (by omega) hr h1 h2
def TBxs (w0 : World) (os : List Obj) (W : World) : Prop := Below w0.heap.size w0 W /\ w0.heap.size + os.length <= W.heap.size /\ ∀ i o, os[i]? = some o -> W.heap[w0.heap.size + i]? = some o
def RatV (L : Nat) (w : World) (v : Value) (p q : Int) : Prop := ∃ sb sv uv, v = .agg #[.bool sb, sv, uv] /\ sb = decide (p < 0) /\ Num L w sv p.natAbs /\ Num L w uv (if q = 1 then 0 else q)
def Low (p q : Int) : Prop := 0 < q /\ Int.gcd p q = 1
def RetRat (L : Nat) (w : World) (p q : Int) (e : Ending) (w' : World) : Prop := Below w.heap.size w w' /\ ∃ v', e = .returned v' /\ RatV L w' v' p q


def decR (p q : Int) : List UInt8 := if q = 1 then Dg.decZ p else Dg.decZ p ++ 47 :: Dg.decN q.toNat
def frN (a b : Int) : Int := (if b < 0 then -a else a) / (Int.gcd a b : Int)
def frD (a b : Int) : Int := (b.natAbs : Int) / (Int.gcd a b : Int)
def MkRet (L : Nat) (w : World) (p q : Int) (e : Ending) (w' : World) : Prop := Below w.heap.size w w' /\ ∃ v', e = .returned (.tuple #[v', .int .i64 0]) /\ RatV L w' v' p q
abbrev rat0 : Value := .agg #[.bool false, .slice none 0 0, .slice none 0 0]
def MkRet2 (L : Nat) (w : World) (a b : Int) (e : Ending) (w' : World) : Prop := Below w.heap.size w w' /\ ∃ v' err, e = .returned (.tuple #[v', .int .i64 err]) /\ RatV L w' v' (if b = 0 then 0 else frN a b) (if b = 0 then 1 else frD a b) /\ err = if b = 0 then 6 else 0
def CrRet (L : Nat) (w : World) (y z : Int) (e : Ending) (w' : World) : Prop := Below w.heap.size w w' /\ ∃ v1 v2, e = .returned (.tuple #[v1, v2]) /\ IntV L w' v1 y /\ IntV L w' v2 z
def smR (p q : Int) : Bool := smallB p.natAbs && smallB (if q = 1 then 0 else q)
def SmRat (L : Nat) (w : World) (p q : Int) (e : Ending) (w' : World) : Prop := Below w.heap.size w w' /\
 ((smR p q = true /\ ∃ v', e = .returned v' /\ RatV L w' v' p q) \/ (smR p q = false /\ ∃ u pv, e = .panicked [{ v := .iface u pv, recovered := false }]))
def YdRat (L : Nat) (w : World) (p q : Int) (e : Ending) (w' : World) : Prop := Below w.heap.size w w' /\
 ((smR p q = true /\ ∃ v', e = .returned (.tuple #[v', .int .i64 0]) /\ RatV L w' v' p q) \/ (smR p q = false /\ e = .returned (.tuple #[rat0, .int .i64 11])))



def CutRet (s : ByteArray) (w : World) (e : Ending) (w' : World) : Prop := Below w.heap.size w w' /\
 ((∃ b a : ByteArray, e = .returned (.tuple #[.string b, .string a, .bool true]) /\ s.data.toList = b.data.toList ++ 47 :: a.data.toList /\ (47 : UInt8) ∉ b.data.toList /\ b.size <= s.size /\ a.size <= s.size) \/
  (e = .returned (.tuple #[.string s, .string ⟨#[]⟩, .bool false]) /\ (47 : UInt8) ∉ s.data.toList))
end Go.Proofs.YtdnheaafcbihbaaGreat
namespace Go.Proofs.YtdnheaafcbihbaaGreat
open Go Go.RowKit
end Go.Proofs.YtdnheaafcbihbaaGreat
namespace Go.Proofs.YtdnheaafcbihbaaGreat
open Go Go.RowKit
def PrRet (s : ByteArray) (w : World) (e : Ending) (w' : World) : Prop := Below w.heap.size w w' /\
 ((∃ p q v', s.data.toList = decR p q /\ Low p q /\ smR p q = true /\ e = .returned (.tuple #[v', .int .i64 0]) /\ RatV (s.size + 40000) w' v' p q) \/
  (∃ p q, s.data.toList = decR p q /\ Low p q /\ smR p q = false /\ e = .returned (.tuple #[rat0, .int .i64 11])) \/
  ((∀ p q, Low p q -> s.data.toList ≠ decR p q) /\ e = .returned (.tuple #[rat0, .int .i64 10])))
structure TKept (p : Prop) : Prop where
 out : p
theorem IntV.fit {L : Nat} {w : World} {v : Value} {z : Int} (h : IntV L w v z) (hs : smallB z.natAbs = true) : IntV 625 w v z := by
 obtain ⟨sb, sv, e, h1, xs, a1, a2, a3, a4, a5⟩ := h
 refine ⟨sb, sv, e, h1, xs, a1, a2, a3, a4, ?_⟩
 refine Dg.len_le_of_val_lt (by decide) a2 a3 ?_
 rw [a4]
 have h2 : (z.natAbs : Int) < 2 ^ maxBits := of_decide_eq_true hs
 rw [show maxBits = 64 * 625 from rfl, Int.pow_mul] at h2
 exact h2
def RetOk (L : Nat) (w : World) (z : Int) (e : Ending) (w' : World) : Prop := Below w.heap.size w w' /\ ∃ s ao k c, e = .returned (.tuple #[.agg #[.bool s, .slice ao k c], .int .i64 0]) /\ IntV L w' (.agg #[.bool s, .slice ao k c]) z
theorem YdRet.yes {L : Nat} {w : World} {z : Int} {e : Ending} {w' : World} (h : YdRet L w z e w') (hs : smallB z.natAbs = true) : RetOk 625 w z e w' := by
 obtain ⟨hb, ⟨hsm, v', rfl, hI⟩ | ⟨hsm, _⟩⟩ := h
 ·obtain ⟨s, sv, rfl, h1, hn⟩ := hI.fit hsm
  obtain ⟨ao, k, c, rfl⟩ := hn.form
  exact ⟨hb, s, ao, k, c, rfl, _, _, rfl, h1, hn⟩
 ·rw [hs] at hsm; cases hsm
theorem Num.keep {L : Nat} {w w' : World} {v : Value} {n : Int} {g : Nat} {cs : Array Value} {T : TypeId} {fr : Nat × Nat} (h : Num L w v n) (hg : w.heap[g]? = some (.cells cs T fr)) (hc : ∀ (i : Nat) (m : Int), cs[i]? ≠ some (Value.int .u64 m)) (hgr : w.grownBy w' (some g)) : Num L w' v n := by
 obtain ⟨xs, h1, h2⟩ := h
 exact ⟨xs, h1.kept hgr (fun k hk e => h1.not_boxT hg hc (hk.trans e.symm)), h2⟩
theorem IntV.keep {L : Nat} {w w' : World} {v : Value} {z : Int} {g : Nat} {cs : Array Value} {T : TypeId} {fr : Nat × Nat} (h : IntV L w v z) (hg : w.heap[g]? = some (.cells cs T fr)) (hc : ∀ (i : Nat) (m : Int), cs[i]? ≠ some (Value.int .u64 m)) (hgr : w.grownBy w' (some g)) : IntV L w' v z :=
 let ⟨sb, sv, e, h1, hn⟩ := h; ⟨sb, sv, e, h1, hn.keep hg hc hgr⟩
def Cz (w : World) (g N : Nat) (F : Nat -> Int) : Prop := ∃ cur : Array Value, w.heap[g]? = some (.cells cur 98 (0, 0)) /\ cur.size = 2 * N /\
 ∀ d, d < N -> ∃ (s : Bool) (ao : Option Addr) (k c : Nat), cur[d * 2]? = some (.bool s) /\ cur[d * 2 + 1]? = some (.slice ao k c) /\ IntV 1 w (.agg #[.bool s, .slice ao k c]) (F d)
theorem Cz.lt {w : World} {g N : Nat} {F : Nat -> Int} (h : Cz w g N F) : g < w.heap.size := by
 obtain ⟨cur, h1, _⟩ := h
 exact (Array.getElem?_eq_some_iff.1 h1).1
theorem Cz.below {w w' : World} {g N : Nat} {F : Nat -> Int} (h : Cz w g N F) (hb : Below w.heap.size w w') : Cz w' g N F := by
 have hl := h.lt
 obtain ⟨cur, h1, h2, h3⟩ := h
 refine ⟨cur, (hb.block _ hl).trans h1, h2, fun d hd => ?_⟩
 obtain ⟨s, ao, k, c, a1, a2, a3⟩ := h3 d hd
 exact ⟨s, ao, k, c, a1, a2, a3.below hb⟩
theorem Cz.at {w : World} {g N : Nat} {F : Nat -> Int} (h : Cz w g N F) {d : Nat} (hd : d < N) : ∃ (s : Bool) (ao : Option Addr) (k c : Nat), w.cell? ⟨g, d * 2, none⟩ = some (.bool s) /\ w.cell? ⟨g, d * 2 + 1, none⟩ = some (.slice ao k c) /\ IntV 1 w (.agg #[.bool s, .slice ao k c]) (F d) := by
 obtain ⟨cur, h1, h2, h3⟩ := h
 obtain ⟨s, ao, k, c, a1, a2, a3⟩ := h3 d hd
 exact ⟨s, ao, k, c, by rw [cell_of_row w g _ cur _ (0, 0) h1]; exact a1, by rw [cell_of_row w g _ cur _ (0, 0) h1]; exact a2, a3⟩
theorem Cz.free {w : World} {g N : Nat} {F : Nat -> Int} (h : Cz w g N F) (i : Nat) : w.frozen? ⟨g, i, none⟩ = false := by
 obtain ⟨cur, h1, _⟩ := h
 exact frozen_of_row w g i cur _ h1
theorem Cz.no_int {cur : Array Value} {N : Nat} (h2 : cur.size = 2 * N) (h3 : ∀ d, d < N -> ∃ (s : Bool) (ao : Option Addr) (k c : Nat), cur[d * 2]? = some (.bool s) /\ cur[d * 2 + 1]? = some (.slice ao k c)) (i : Nat) (m : Int) : cur[i]? ≠ some (Value.int .u64 m) := fun e => by
 have hi : i < cur.size := (Array.getElem?_eq_some_iff.1 e).1
 obtain ⟨s, ao, k, c, a1, a2⟩ := h3 (i / 2) (by omega)
 rcases Nat.mod_two_eq_zero_or_one i with h | h
 ·rw [show i / 2 * 2 = i by omega, e] at a1
  cases a1
 ·rw [show i / 2 * 2 + 1 = i by omega, e] at a2
  cases a2
theorem Cz.set {w : World} {g N : Nat} {F : Nat -> Int} (h : Cz w g N F) {i : Nat} (hi : i < N) {s : Bool} {ao : Option Addr} {k c : Nat} {z : Int} (hz : IntV 1 w (.agg #[.bool s, .slice ao k c]) z) : Cz ((w.setCell ⟨g, i * 2, none⟩ (.bool s)).setCell ⟨g, i * 2 + 1, none⟩ (.slice ao k c)) g N (fun d => if d = i then z else F d) := by
 obtain ⟨cur, h1, h2, h3⟩ := h
 have hg : w.grownBy ((w.setCell ⟨g, i * 2, none⟩ (.bool s)).setCell ⟨g, i * 2 + 1, none⟩ (.slice ao k c)) (some g) := growSet (growSet (growRefl w _) _ _) _ _
 have hni := Cz.no_int h2 (fun d hd => by obtain ⟨s, ao, k, c, a1, a2, _⟩ := h3 d hd; exact ⟨s, ao, k, c, a1, a2⟩)
 refine ⟨(cur.setIfInBounds (i * 2) (.bool s)).setIfInBounds (i * 2 + 1) (.slice ao k c), heap_setCell_same _ g _ _ _ _ (heap_setCell_same w g _ cur _ _ h1), by simp [h2], fun d hd => ?_⟩
 by_cases e : d = i
 ·subst e
  refine ⟨s, ao, k, c, ?_, ?_, by show IntV 1 _ _ (if d = d then z else F d); rw [if_pos rfl]; exact hz.keep h1 hni hg⟩
  ·rw [Array.getElem?_setIfInBounds_ne (by omega), Array.getElem?_setIfInBounds_self_of_lt (by omega)]
  ·rw [Array.getElem?_setIfInBounds_self_of_lt (by simp; omega)]
 ·obtain ⟨s', ao', k', c', a1, a2, a3⟩ := h3 d hd
  refine ⟨s', ao', k', c', ?_, ?_, by show IntV 1 _ _ (if d = i then z else F d); rw [if_neg e]; exact a3.keep h1 hni hg⟩
  ·rw [Array.getElem?_setIfInBounds_ne (by omega), Array.getElem?_setIfInBounds_ne (by omega)]; exact a1
  ·rw [Array.getElem?_setIfInBounds_ne (by omega), Array.getElem?_setIfInBounds_ne (by omega)]; exact a2
theorem IntV.zero (L : Nat) (w : World) : IntV L w (.agg #[.bool false, .slice none 0 0]) 0 := ⟨false, _, rfl, rfl, ⟨[], Sl.nil _ _, by simp [Dg.Wf], by simp [Dg.Nz], rfl, by simp⟩⟩
theorem Cz.start {w : World} {g N : Nat} (h : w.heap[g]? = some (.cells (madeCells #[.bool false, .slice none 0 0] (N * 2)) 98 (0, 0))) : Cz w g N (fun _ => 0) := by
 refine ⟨_, h, by rw [size_madeCells]; omega, fun d hd => ⟨false, none, 0, 0, ?_, ?_, IntV.zero 1 w⟩⟩
 ·unfold madeCells
  rw [Array.getElem?_map, Array.getElem?_range, if_pos (by omega)]
  simp [show d * 2 % 2 = 0 by omega]
 ·unfold madeCells
  rw [Array.getElem?_map, Array.getElem?_range, if_pos (by omega)]
  simp [show (d * 2 + 1) % 2 = 1 by omega]
end Go.Proofs.YtdnheaafcbihbaaGreat
