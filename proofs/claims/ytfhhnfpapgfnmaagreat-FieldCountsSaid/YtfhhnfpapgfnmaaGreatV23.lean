/-
  Texts of the proof, merged by program: TRst2 TIsz TSums TRln TRpw TRtm TRsl TRdm TZsf.
-/
import Derived.Test.YtfhhnfpapgfnmaaGreatV22
import Derived.Test.YtfhhnfpapgfnmaaGreatV21
import Derived.Deep.Upon
set_option linter.unusedVariables false
set_option linter.unusedSimpArgs false
namespace Go.Proofs.YtfhhnfpapgfnmaaGreat
open Go Go.RowKit
theorem TBxs.grow1 {w0 W W' : World} {o : Obj} {r : Option Nat} (h : TBxs w0 [o] W) (hg : W.grownBy W' r) (hr : ∀ k, r = some k → w0.heap.size + 1 ≤ k) : TBxs w0 [o] W' :=
  ⟨h.1.grown hg h.1.size (fun k hk => by have := hr k hk; omega), Nat.le_trans h.2.1 hg.size, fun i o' hi => by
    have hi0 : i = 0 := by
      apply Classical.byContradiction
      intro hc
      rw [List.getElem?_eq_none (by simp; omega)] at hi
      cases hi
    subst hi0
    have hl := h.l1
    rw [hg.block (w0.heap.size + 0) (by omega) (by
      rcases r with _ | k
      · simp
      · have := hr k rfl; simp; omega)]
    exact h.2.2 0 o' hi⟩
/-- The limbs written out so far. -/
structure LmAt (xs D : List Int) (n : Nat) : Prop where
  wf : Dg.Wf 10 D
  len : D.length = 9 * n
  eq : Dg.val 10 D = Dg.val BN (xs.take n)
set_option maxRecDepth 20000 in
set_option maxHeartbeats 4000000 in
theorem rstr_any {L : Nat} {v : Value} {z : Int} {w : World} (h : ZV L w v z) (hL : L ≤ 67108864) :
    Calls Tryz.prog 8 #[v] w (StrRet w (Dg.decZ z)) := by
  obtain ⟨sb, sv, rfl, hsb, xs, a1, a2, a3, a4, a5⟩ := h
  have a1' := a1
  obtain ⟨ao, cap, rfl, hc, hm, hx⟩ := a1
  unfold maxLen at hm
  have HX0 : Hid (TBxs w [.cells #[.bool sb, .slice ao xs.length cap] 38] (w.alloc (.cells #[.bool sb, .slice ao xs.length cap] 38))) := (TBxs.start w).alloc (by simp) _
  by_cases hz : z = 0
  · have hxs : xs = [] := (Dg.val_zero_iff (B := BN) (by decide) a2 a3).1 (by rw [a4, hz]; rfl)
    subst hxs
    subst hz
    simp only [List.length_nil] at HX0 ⊢
    clear hx a1' a2 a3 a4 a5 hsb
    go_enter Tryz.func8, Tryz.ntmps8
    go_wp2
    go_ret
    exact ⟨HX0.out.1, rfl⟩
  · obtain ⟨N, hN⟩ : ∃ N : Int, N = (z.natAbs : Int) := ⟨_, rfl⟩
    have hNp : 0 < N := by omega
    have hxl : 0 < xs.length := by
      apply List.length_pos_iff.2
      intro e
      have h4 : (z.natAbs : Int) = 0 := by rw [← a4, e]; rfl
      omega
    have t0 : ((xs.length : Int) == 0) = false := beq_eq_false_iff_ne.2 (by omega)
    rw [← hN] at a4
    have HN := TKept.mk hN
    have HA4 := TKept.mk a4
    have HSB := TKept.mk hsb
    have HX := TKept.mk hx
    have HWF := TKept.mk a2
    clear hN a4 hsb hx a3 a1'
    go_enter Tryz.func8, Tryz.ntmps8
    go_wp2
    go_loopw [3, 4] (fun bv iv wr => ∃ (n : Nat) (D : List Int), n ≤ xs.length ∧ iv = .int .i64 n ∧ TKept (LmAt xs D n) ∧ TKept (Mine 5 .u8 (w.heap.size + 1) wr bv (dby D)) ∧ TKept (TBxs w [.cells #[.bool sb, .slice ao xs.length cap] 38] wr)) (fun _ iv _ => xs.length - (intOf iv).toNat)
    case atStart => exact ⟨0, [], Nat.zero_le _, rfl, ⟨⟨Dg.Wf.nil _, rfl, rfl⟩⟩, ⟨Mine.nil _ _ _ _⟩, ⟨HX0.out⟩⟩
    case round =>
      obtain ⟨n, D, hn, rfl, hat, hmi, hbx⟩ := hrel
      obtain ⟨wo, rfl⟩ : ∃ wo : World, wo = wr := ⟨_, rfl⟩
      obtain ⟨q0, q1, _⟩ := ttwo_cells hbx.out.b0
      have hl1 := hbx.out.l1
      by_cases hlt : n < xs.length
      · obtain ⟨b, o, rfl, hbs, hcell⟩ := HX.out n hlt
        obtain ⟨x, hxx⟩ : ∃ x, x = xs[n]?.getD 0 := ⟨_, rfl⟩
        have hxb : 0 ≤ x ∧ x < 1000000000 := by rw [hxx]; exact HWF.out.getD (by decide) n
        rw [← hxx] at hcell
        have HXX := TKept.mk hxx
        have hcl := (hbx.out.1.cell (p := ⟨b, o + n, none⟩) hbs).trans hcell
        clear hxx hcell
        go_wp2
        go_loopw [3, 5, 6] (fun bv vv kv wi => ∃ (k : Nat) (y : Int) (D' : List Int), k ≤ 9 ∧ kv = .int .i64 k ∧ vv = .int .i64 y ∧ 0 ≤ y ∧ y < 1000000000 ∧ TKept (StAt xs D' n k x y) ∧ TKept (Mine 5 .u8 (w.heap.size + 1) wi bv (dby D')) ∧ TKept (TBxs w [.cells #[.bool sb, .slice (some ⟨b, o, none⟩) xs.length cap] 38] wi)) (fun _ _ kv _ => 9 - (intOf kv).toNat)
        case atStart => exact ⟨0, x, D, by omega, rfl, rfl, hxb.1, hxb.2, ⟨StAt.start hat.out.wf hat.out.len hat.out.eq hxb.1 hxb.2⟩, hmi, hbx⟩
        case round =>
          clear q0 q1 hcl hbx hmi hl1
          obtain ⟨k, y, D', hk, rfl, rfl, y0, y1, hst, hmi, hbx⟩ := hrel
          by_cases hk9 : k < 9
          · obtain ⟨d, hd⟩ : ∃ d, y % 10 = d := ⟨_, rfl⟩
            obtain ⟨y2, hy2⟩ : ∃ y2, y / 10 = y2 := ⟨_, rfl⟩
            have hd0 : 0 ≤ d := by omega
            have hd1 : d < 10 := by omega
            have hyy0 : 0 ≤ y2 := by omega
            have hyy1 : y2 < 1000000000 := by omega
            have hlen := hst.out.len
            have HST := TKept.mk (hst.out.next hk9)
            have HD := TKept.mk hd
            have HY2 := TKept.mk hy2
            have HMa := Lib.hid (hmi.out.alloc (.cells #[.int .u8 (48 + d)] 5))
            have HNW := Lib.hid (new_one (K := .u8) (x := 48 + d) (w := wr.alloc (.cells #[.int .u8 (48 + d)] 5)) (b := wr.heap.size) (o := 0) (by exact (Row.new (E := 5) (K := .u8) wr [48 + d]).cell (i := 0) (by simp)))
            have HBB := Lib.hid (show w.heap.size + 1 ≤ (wr.alloc (.cells #[.int .u8 (48 + d)] 5)).heap.size by have := hbx.out.l1; simp; omega)
            have H1 := Lib.hid (show ((dby D').length + [48 + d].length) * 1 ≤ 140737488355328 by rw [dby_len]; simp; omega)
            have H2 := Lib.hid (show (dby D').length + [48 + d].length ≤ maxLen by rw [dby_len]; unfold maxLen; simp; omega)
            clear hlen hy2
            go_wp2_with (at_builtin; refine wpList_append_mine _ rfl _ _ 61 rfl 5 .u8 1 Tryz.underlying61 info_u8 (w.heap.size + 1) _ (dby D') rfl HMa.out HBB.out ⟨wr.heap.size, 0, none⟩ 1 1 [48 + d] rfl rfl HNW.out H1.out H2.out ?_)
            intro v' w5 hm5 hg5 hn5
            have HM5 := TKept.mk hm5
            have HX5 := TKept.mk (hbx.out.grow1 (tgrowTrans (World.grownBy_alloc wr (.cells #[.int .u8 (48 + d)] 5) _) hg5) (fun k hk => (hmi.out.own k hk).1))
            clear hm5 hg5 hn5
            go_wp2
            go_roundw
            case rel => exact ⟨k + 1, y2, D' ++ [d], by omega, by go_num, congrArg (Value.int .i64) HY2.out, hyy0, hyy1, ⟨by have := HST.out; rw [HD.out, HY2.out] at this; exact this⟩, ⟨by rw [dby_snoc]; exact HM5.out⟩, HX5⟩
            case measure => simp [intOf]; omega
          · obtain rfl : k = 9 := by omega
            have HDN := TKept.mk (hst.out.done hlt HXX.out)
            go_wp2
            go_roundw
            case rel => exact ⟨n + 1, D', by omega, by go_num, ⟨⟨hst.out.wf, by have := hst.out.len; omega, HDN.out⟩⟩, hmi, hbx⟩
            case measure => simp [intOf]; omega
      · obtain rfl : n = xs.length := by omega
        have hval : Dg.val 10 D = N := by rw [hat.out.eq, List.take_of_length_le (Nat.le_refl _)]; exact HA4.out
        have hDl : D.length = 9 * xs.length := hat.out.len
        have HWD := TKept.mk hat.out.wf
        have HVAL := TKept.mk hval
        obtain ⟨g, cap', eb, _, hgs, hcapb, hcmb, _⟩ := hmi.out.at (i := 0) (by rw [dby_len]; omega)
        rw [dby_len] at eb hcapb
        subst eb
        unfold maxLen at hcmb
        have HMI := TKept.mk hmi.out
        clear hval
        go_wp2
        go_loop [3] (fun b => ∃ m : Nat, 0 < m ∧ m ≤ D.length ∧ b = .slice (some ⟨g, 0, none⟩) m cap' ∧ TKept (∀ i, m ≤ i → D[i]?.getD 0 = 0)) (fun b => match b with | .slice _ m _ => m | _ => 0)
        case atStart => exact ⟨D.length, by omega, Nat.le_refl _, rfl, ⟨fun i hi => by simp [hi]⟩⟩
        case round =>
          obtain ⟨m, hm0, hmD, rfl, hzs⟩ := hrel
          obtain ⟨j, rfl⟩ : ∃ j, m = j + 1 := ⟨m - 1, by omega⟩
          obtain ⟨_, _, e5, _, _, _, _, hcell, hfz, _⟩ := HMI.out.at (i := j) (by rw [dby_len]; omega)
          rw [dby_len] at e5
          simp only [Value.slice.injEq, Option.some.injEq, Addr.mk.injEq, and_true, true_and] at e5
          obtain ⟨rfl, rfl⟩ := e5
          obtain ⟨d, hd⟩ : ∃ d, d = D[j]?.getD 0 := ⟨_, rfl⟩
          have hdb := HWD.out.getD (by decide) j
          rw [← hd] at hdb
          have ed : (dby D)[j]?.getD 0 = 48 + d := by
            have hjl : j < D.length := by omega
            rw [hd]; simp [dby, hjl]
          rw [ed] at hcell
          have HD := TKept.mk hd
          clear ed hd
          by_cases hd0 : d = 0
          · subst hd0
            have hj0 : 0 < j := by
              apply Nat.pos_of_ne_zero
              intro hj
              subst hj
              have hz0 : ∀ i : Nat, D[i]?.getD (0 : Int) = 0 := fun i => by
                by_cases hi : i = 0
                · rw [hi]; exact HD.out.symm
                · exact hzs.out i (by omega)
              have := Dg.val_of_zeros (B := 10) hz0
              have := HVAL.out
              omega
            have HZ2 : TKept (∀ i, j ≤ i → D[i]?.getD 0 = 0) := ⟨fun i hi => by
              by_cases e : i = j
              · rw [e]; exact HD.out.symm
              · exact hzs.out i (by omega)⟩
            go_wp2
            go_round
            case rel => exact ⟨j, hj0, by omega, rfl, HZ2⟩
            case measure => simp
          · have hcut : Dg.cut D = D.take (j + 1) := Dg.cut_eq D (j + 1) hzs.out (.inr (by rw [Nat.add_sub_cancel, ← HD.out]; exact hd0))
            have hdec := cut_decN HWD.out HVAL.out hNp
            rw [hcut] at hdec
            have hMF := HMI.out
            rw [← dby_len D] at hMF
            have hMF2 := hMF.uptoT (n := j + 1) (by rw [dby_len]; omega)
            have eE : (dby D).take (j + 1) = nat8 ((D.take (j + 1)).map Dg.byt) := by
              rw [← dby_nat8 (HWD.out.take _)]; unfold dby; rw [List.map_take]
            rw [eE] at hMF2
            obtain ⟨l, hl⟩ : ∃ l, l = (D.take (j + 1)).map Dg.byt := ⟨_, rfl⟩
            have hll : l.length = j + 1 := by rw [hl]; simp; omega
            have hlr : l.reverse = Dg.decN N.toNat := by rw [hl, ← List.map_reverse]; exact hdec
            rw [← hl] at hMF2
            have HM2 := TKept.mk hMF2
            have HLL := TKept.mk hll
            have HLR := TKept.mk hlr
            have hd48 : ((48 + d) == 48) = false := beq_eq_false_iff_ne.2 (by omega)
            clear hcut hdec hMF hMF2 eE hl hll hlr hfz
            cases sb
            · have hdz : Dg.decZ z = Dg.decN N.toNat := by
                have hz0 : ¬ z < 0 := by have := HSB.out; simpa using this.symm
                have e : N.toNat = z.natAbs := by rw [HN.out, Int.toNat_natCast]
                unfold Dg.decZ; rw [if_neg hz0, e]
              obtain ⟨F, hF⟩ : ∃ F, F = l := ⟨_, rfl⟩
              have hFne : F ≠ [] := by rw [hF]; intro e; have := HLL.out; rw [e] at this; simp at this
              have HFZ : TKept (F.reverse = Dg.decZ z) := ⟨by rw [hF, HLR.out, hdz]⟩
              have hFL : F.length = j + 1 := by rw [hF]; exact HLL.out
              have HMF : TKept (Mine 5 .u8 (w.heap.size + 1) wo (.slice (some ⟨g, 0, none⟩) (j + 1) cap') (nat8 F)) := ⟨by rw [hF]; exact HM2.out⟩
              have HBF : TKept (Below w.heap.size w wo) := ⟨hbx.out.1⟩
              have hnl : (nat8 F).length = j + 1 := by rw [← hFL]; simp [nat8]
              obtain ⟨g2', cap2', eb, hgB2, _, _, _, _⟩ := HMF.out.at (i := 0) (by omega)
              have hgB3 : w.heap.size + 1 ≤ g := by
                simp only [Value.slice.injEq, Option.some.injEq, Addr.mk.injEq, and_true] at eb
                omega
              have HNL := TKept.mk hnl
              clear hnl eb hgB2
              clear hF hdz
              go_wp2
              go_loopw [7, 8] (fun si sj wr => ∃ (i j' : Nat) (ys : List Int), i + j' + 1 ≤ (j + 1) ∧ (j + 1) ≤ i + j' + 1 ∧ si = .int .i64 i ∧ sj = .int .i64 j' ∧ TKept (RvAt (nat8 F) ys i j') ∧ TKept (Mine 5 .u8 (w.heap.size + 1) wr (.slice (some ⟨g, 0, none⟩) (j + 1) cap') ys) ∧ TKept (Below w.heap.size w wr)) (fun _ sj _ => (intOf sj).toNat)
              case atStart => exact ⟨0, (j + 1) - 1, nat8 F, by omega, by omega, rfl, by first | rfl | (congr 1; omega), ⟨⟨rfl, fun t ht => by rw [HNL.out] at ht; rw [if_pos (by omega)]⟩⟩, HMF, HBF⟩
              case round =>
                obtain ⟨i, j', ys, hs1, hs2, rfl, rfl, hrv, hMr, hbw⟩ := hrel
                have HYL := TKept.mk (hrv.out.1.trans HNL.out)
                by_cases hlt2 : i < j'
                · obtain ⟨g3, cap3, e3, hgB, hgs, hca, hcm, hci, hcj, hfi, hfj, hset⟩ := hMr.out.two (i := i) (j := j') (by have := HYL.out; omega) (by have := HYL.out; omega)
                  simp only [Value.slice.injEq, Option.some.injEq, Addr.mk.injEq, and_true, true_and] at e3
                  obtain ⟨rfl, hl', rfl⟩ := e3
                  clear hl'
                  obtain ⟨x, hx2⟩ : ∃ x, x = ys[i]?.getD 0 := ⟨_, rfl⟩
                  obtain ⟨y, hy2⟩ : ∃ y, y = ys[j']?.getD 0 := ⟨_, rfl⟩
                  rw [← hx2] at hci
                  rw [← hy2] at hcj
                  have HX2 := TKept.mk hx2
                  have HY2 := TKept.mk hy2
                  have HSET := TKept.mk hset
                  have hil : i < (j + 1) := by omega
                  have hjl : j' < (j + 1) := by omega
                  have hij : ¬ i = j' := by omega
                  clear hx2 hy2 hset hcm hca
                  go_wp2
                  go_roundw
                  case rel => exact ⟨i + 1, j' - 1, (ys.set i y).set j' x, by omega, by omega, by go_num, by congr 1; omega, ⟨hrv.out.next hlt2 (by rw [HNL.out]; omega) HX2.out HY2.out⟩, ⟨HSET.out y x⟩, ⟨(hbw.out.setCell (p := ⟨g, i, none⟩) (by simp; omega) _).setCell (p := ⟨g, j', none⟩) (by simp; omega) _⟩⟩
                  case measure => simp [intOf] <;> omega
                · have he := hrv.out.done (by omega) (by rw [HNL.out]; omega)
                  have hSl := hMr.out.sl
                  rw [he, nat8_reverse] at hSl
                  have hcv := bytes_of wr (l := F.reverse) (by exact hSl) (by simpa using hFne)
                  unfold str at hcv
                  rw [HFZ.out] at hcv
                  have hcv2 : ∀ w', w' = wr → (convert 61 9 (.slice (some ⟨g, 0, none⟩) (j + 1) cap')).run Tryz.prog w' = .ok (.string ⟨(Dg.decZ z).toArray⟩) w' := fun w' e => by rw [e]; exact hcv
                  have hcv3 := hcv2 wr rfl
                  clear he hSl hcv hcv2
                  go_wp2
                  go_ret
                  exact ⟨hbw.out, rfl⟩
            · have HBXX := TKept.mk hbx.out
              have hjb : j + 1 ≤ 9 * 67108864 := by omega
              have HMa := Lib.hid (HM2.out.alloc (.cells #[.int .u8 45] 5))
              have HNW := Lib.hid (new_one (K := .u8) (x := 45) (w := wo.alloc (.cells #[.int .u8 45] 5)) (b := wo.heap.size) (o := 0) (by exact (Row.new (E := 5) (K := .u8) wo [45]).cell (i := 0) (by simp)))
              have HBB := Lib.hid (show w.heap.size + 1 ≤ (wo.alloc (.cells #[.int .u8 45] 5)).heap.size by have := hbx.out.l1; simp; omega)
              have hn8 : (nat8 l).length = j + 1 := by simp [nat8, HLL.out]
              have H1 := Lib.hid (show ((nat8 l).length + [(45 : Int)].length) * 1 ≤ 140737488355328 by rw [hn8]; simp; omega)
              have H2 := Lib.hid (show (nat8 l).length + [(45 : Int)].length ≤ maxLen by rw [hn8]; unfold maxLen; simp; omega)
              clear hn8
              go_wp2_with (at_builtin; refine wpList_append_mine _ rfl _ _ 61 rfl 5 .u8 1 Tryz.underlying61 info_u8 (w.heap.size + 1) _ (nat8 l) rfl HMa.out HBB.out ⟨wo.heap.size, 0, none⟩ 1 1 [45] rfl rfl HNW.out H1.out H2.out ?_)
              intro v' wq hm5 hg5 hn5
              have hdz : Dg.decZ z = 45 :: Dg.decN N.toNat := by
                have hz0 : z < 0 := by have := HSB.out; simpa using this.symm
                have e : N.toNat = z.natAbs := by rw [HN.out, Int.toNat_natCast]
                unfold Dg.decZ; rw [if_pos hz0, e]
              obtain ⟨F, hF⟩ : ∃ F : List UInt8, F = l ++ [45] := ⟨_, rfl⟩
              have hFne : F ≠ [] := by rw [hF]; simp
              have HFZ : TKept (F.reverse = Dg.decZ z) := ⟨by rw [hF, hdz, ← HLR.out]; simp⟩
              have HMF : TKept (Mine 5 .u8 (w.heap.size + 1) wq v' (nat8 F)) := ⟨by rw [hF, nat8_append]; exact hm5⟩
              have HBF : TKept (Below w.heap.size w wq) := ⟨(HBXX.out.grow1 (tgrowTrans (World.grownBy_alloc wo (.cells #[.int .u8 45] 5) _) hg5) (fun k hk => (HM2.out.own k hk).1)).1⟩
              have hFlen : F.length ≤ 9 * 67108864 + 1 := by rw [hF]; simp [HLL.out]; omega
              clear hm5 hg5 hn5 hF hdz
              have hFl : 0 < F.length := List.length_pos_iff.2 hFne
              have hFl : 0 < F.length := List.length_pos_iff.2 hFne
              have hnl : (nat8 F).length = F.length := by simp [nat8]
              obtain ⟨g2, cap2, eb, _, hg2s, hcap2, hcm2, _⟩ := HMF.out.at (i := 0) (by omega)
              rw [hnl] at eb hcap2
              subst eb
              unfold maxLen at hcm2
              have HNL := TKept.mk hnl
              clear hnl
              go_wp2
              go_loopw [7, 8] (fun si sj wr => ∃ (i j : Nat) (ys : List Int), i + j + 1 ≤ F.length ∧ F.length ≤ i + j + 1 ∧ si = .int .i64 i ∧ sj = .int .i64 j ∧ TKept (RvAt (nat8 F) ys i j) ∧ TKept (Mine 5 .u8 (w.heap.size + 1) wr (.slice (some ⟨g2, 0, none⟩) F.length cap2) ys) ∧ TKept (Below w.heap.size w wr)) (fun _ sj _ => (intOf sj).toNat)
              case atStart => exact ⟨0, F.length - 1, nat8 F, by omega, by omega, rfl, by congr 1; omega, ⟨⟨rfl, fun t ht => by rw [HNL.out] at ht; rw [if_pos (by omega)]⟩⟩, HMF, HBF⟩
              case round =>
                obtain ⟨i, j, ys, hs1, hs2, rfl, rfl, hrv, hMr, hbw⟩ := hrel
                have HYL := TKept.mk (hrv.out.1.trans HNL.out)
                by_cases hlt2 : i < j
                · obtain ⟨g3, cap3, e3, hgB, hgs, hca, hcm, hci, hcj, hfi, hfj, hset⟩ := hMr.out.two (i := i) (j := j) (by have := HYL.out; omega) (by have := HYL.out; omega)
                  simp only [Value.slice.injEq, Option.some.injEq, Addr.mk.injEq, and_true, true_and] at e3
                  obtain ⟨rfl, hl', rfl⟩ := e3
                  clear hl'
                  obtain ⟨x, hx2⟩ : ∃ x, x = ys[i]?.getD 0 := ⟨_, rfl⟩
                  obtain ⟨y, hy2⟩ : ∃ y, y = ys[j]?.getD 0 := ⟨_, rfl⟩
                  rw [← hx2] at hci
                  rw [← hy2] at hcj
                  have HX2 := TKept.mk hx2
                  have HY2 := TKept.mk hy2
                  have HSET := TKept.mk hset
                  have hil : i < F.length := by omega
                  have hjl : j < F.length := by omega
                  have hij : ¬ i = j := by omega
                  clear hx2 hy2 hset hcm hca
                  go_wp2
                  go_roundw
                  case rel => exact ⟨i + 1, j - 1, (ys.set i y).set j x, by omega, by omega, by go_num, by congr 1; omega, ⟨hrv.out.next hlt2 (by rw [HNL.out]; omega) HX2.out HY2.out⟩, ⟨HSET.out y x⟩, ⟨(hbw.out.setCell (p := ⟨g2, i, none⟩) (by simp; omega) _).setCell (p := ⟨g2, j, none⟩) (by simp; omega) _⟩⟩
                  case measure => simp [intOf] <;> omega
                · have he := hrv.out.done (by omega) (by rw [HNL.out]; omega)
                  have hSl := hMr.out.sl
                  rw [he, nat8_reverse] at hSl
                  have hcv := bytes_of wr (l := F.reverse) (by exact hSl) (by simpa using hFne)
                  unfold str at hcv
                  rw [HFZ.out] at hcv
                  have hcv2 : ∀ w', w' = wr → (convert 61 9 (.slice (some ⟨g2, 0, none⟩) F.length cap2)).run Tryz.prog w' = .ok (.string ⟨(Dg.decZ z).toArray⟩) w' := fun w' e => by rw [e]; exact hcv
                  have hcv3 := hcv2 wr rfl
                  clear he hSl hcv hcv2
                  go_wp2
                  go_ret
                  exact ⟨hbw.out, rfl⟩
end Go.Proofs.YtfhhnfpapgfnmaaGreat

set_option linter.unusedVariables false
set_option linter.unusedSimpArgs false
namespace Go.Proofs.YtfhhnfpapgfnmaaGreat
open Go Go.RowKit
end Go.Proofs.YtfhhnfpapgfnmaaGreat

set_option linter.unusedVariables false
set_option linter.unusedSimpArgs false
namespace Go.Proofs.YtfhhnfpapgfnmaaGreat
open Go Go.RowKit
/-- Block g holds these two cells of a reference's integer. -/
def Hz (W : World) (g : Nat) (x y : Value) : Prop := W.heap[g]? = some (.cells #[x, y] 38 (0, 0))
def TP (n : Nat) : Nat := 10 ^ n
end Go.Proofs.YtfhhnfpapgfnmaaGreat

set_option linter.unusedVariables false
set_option linter.unusedSimpArgs false
namespace Go.Proofs.YtfhhnfpapgfnmaaGreat
open Go Go.RowKit
/-- d is the number of decimal digits of m (1 of 0). -/
structure LenIs (m : Int) (d : Nat) : Prop where
  one : 1 ≤ d
  hi : m < 10 ^ d
  lo : 0 < m → 10 ^ (d - 1) ≤ m
  zero : m = 0 → d = 1
structure LnAt (x v : Int) (j : Nat) : Prop where
  eq : v = x / 10 ^ j
  lo : 0 < j → 10 ^ (j - 1) ≤ x
end Go.Proofs.YtfhhnfpapgfnmaaGreat

set_option linter.unusedVariables false
set_option linter.unusedSimpArgs false
namespace Go.Proofs.YtfhhnfpapgfnmaaGreat
open Go Go.RowKit
theorem zbox_store {L : Nat} {w W : World} {os : List Obj} {g : Nat} {s x : Bool} {ao bo : Option Addr} {k c k' c' : Nat} {z : Int} {T : TypeId} (hx : TBxs w os W) (hg : W.heap[g]? = some (.cells #[.bool x, .slice bo k' c'] T (0, 0)))
    (hgs : w.heap.size + os.length ≤ g) (hI : ZV L W (.agg #[.bool s, .slice ao k c]) z) :
    TBxs w os ((W.setCell ⟨g, 0, none⟩ (.bool s)).setCell ⟨g, 1, none⟩ (.slice ao k c)) ∧ ((W.setCell ⟨g, 0, none⟩ (.bool s)).setCell ⟨g, 1, none⟩ (.slice ao k c)).heap[g]? = some (.cells #[.bool s, .slice ao k c] T (0, 0)) ∧
      ZV L ((W.setCell ⟨g, 0, none⟩ (.bool s)).setCell ⟨g, 1, none⟩ (.slice ao k c)) (.agg #[.bool s, .slice ao k c]) z := by
  obtain ⟨h1, hn⟩ := hI.parts
  exact ⟨hx.grown (tgrowSet (tgrowSet (tgrowRefl W (some g)) 0 _) 1 _) (fun j hj => by cases hj; exact hgs), ttwo_set hg _ _, _, _, rfl, h1, hn.box hg _ _⟩
set_option maxRecDepth 20000 in
set_option maxHeartbeats 2000000 in
theorem rpower_any {La n : Nat} {va : Value} {a : Int} {w : World} (ha : ZV La w va a) (hLa : La ≤ 1000) (hn : n ≤ 10000) :
    Calls Tryz.prog 15 #[va, .int .i64 n] w (RetZ (64 + n * La) w (a ^ n)) := by
  have HA := TKept.mk ha
  obtain ⟨sa, ua, rfl, hsa, hna⟩ := ha
  obtain ⟨ao, ka, ca, rfl, _, _⟩ := hna.form
  have HX0 : TKept (TBxs w [.cells #[.bool sa, .slice ao ka ca] 38, .cells #[.bool false, .slice none 0 0] 38] ((w.alloc (.cells #[.bool sa, .slice ao ka ca] 38)).alloc (.cells #[.bool false, .slice none 0 0] 38))) := ⟨((TBxs.start w).alloc (by simp) _).alloc (by simp) _⟩
  clear hsa hna
  go_enter Tryz.func15, Tryz.ntmps15
  go_wp2_with fail
  refine (rof_any 1 _ (by omega) (by omega)).mono ?_
  rintro e w1 ⟨hb1, v1, rfl, hI1⟩
  obtain ⟨s1, u1, rfl, hs1, hn1⟩ := hI1
  obtain ⟨o1, k1, c1, rfl, _, _⟩ := hn1.form
  have HX1 := TKept.mk (HX0.out.below hb1)
  have HI1 : TKept (ZV 64 w1 (.agg #[.bool s1, .slice o1 k1 c1]) 1) := ⟨⟨_, _, rfl, hs1, hn1⟩⟩
  clear hb1 hs1 hn1
  have HX2 : TKept (TBxs w [.cells #[.bool sa, .slice ao ka ca] 38, .cells #[.bool false, .slice none 0 0] 38] (w1.alloc (.cells #[.bool s1, .slice o1 k1 c1] 38))) := ⟨HX1.out.below ((Below.refl _ _).alloc (Nat.le_refl _) _)⟩
  have HG2 : TKept ((w1.alloc (.cells #[.bool s1, .slice o1 k1 c1] 38)).heap[w1.heap.size]? = some (.cells #[.bool s1, .slice o1 k1 c1] 38 (0, 0))) := ⟨heap_alloc_new w1 _⟩
  have HI2 := TKept.mk (HI1.out.below ((Below.refl _ _).alloc (Nat.le_refl _) (.cells #[.bool s1, .slice o1 k1 c1] 38)))
  have hgl := HX1.out.l2
  go_wp2
  go_loopw [6] (fun i wr => ∃ (q : Nat) (s : Bool) (o : Option Addr) (kk c : Nat), q ≤ n ∧ i = .int .i64 q ∧ TKept (TBxs w [.cells #[.bool sa, .slice ao ka ca] 38, .cells #[.bool false, .slice none 0 0] 38] wr) ∧ TKept (wr.heap[w1.heap.size]? = some (.cells #[.bool s, .slice o kk c] 38 (0, 0))) ∧ TKept (ZV (64 + q * La) wr (.agg #[.bool s, .slice o kk c]) (a ^ q))) (fun i _ => n - (intOf i).toNat)
  case atStart => exact ⟨0, s1, o1, k1, c1, Nat.zero_le _, rfl, HX2, HG2, ⟨by rw [Nat.zero_mul, Int.pow_zero]; exact HI2.out⟩⟩
  case round =>
    obtain ⟨q, s, o, kk, c, hq, rfl, hx, hg, hI⟩ := hrel
    by_cases hqn : q < n
    · have hqa : q * La ≤ 10000 * 1000 := Nat.mul_le_mul (by omega) hLa
      have HQA := TKept.mk hqa
      obtain ⟨a0, a1, f0, f1⟩ := ttwo_cells hg.out
      obtain ⟨b0, b1, -, -⟩ := ttwo_cells hx.out.b0
      have hgw : w1.heap.size < wr.heap.size := (Array.getElem?_eq_some_iff.1 hg.out).1
      clear hqa
      go_wp2_with fail
      refine (rmulz_any hI.out (HA.out.below hx.out.1) (by have := HQA.out; omega) (by omega)).mono ?_
      rintro e w3 ⟨hb3, v3, rfl, hI3⟩
      obtain ⟨s3, u3, rfl, hs3, hn3⟩ := hI3
      obtain ⟨o3, k3, c3, rfl, _, _⟩ := hn3.form
      have HX3 := TKept.mk (hx.out.below hb3)
      have HG3 := TKept.mk ((hb3.block _ hgw).trans hg.out)
      have HI3 : TKept (ZV (64 + (q + 1) * La) w3 (.agg #[.bool s3, .slice o3 k3 c3]) (a ^ (q + 1))) := ⟨by rw [Int.pow_succ, Nat.succ_mul, ← Nat.add_assoc]; exact ⟨_, _, rfl, hs3, hn3⟩⟩
      have s3' := hb3.size
      clear hb3 hs3 hn3 a0 a1 f0 f1 b0 b1
      obtain ⟨a0, a1, f0, f1⟩ := ttwo_cells HG3.out
      obtain ⟨hx5, hg5, hi5⟩ := zbox_store HX3.out HG3.out (by simp; omega) HI3.out
      have HX5 := TKept.mk hx5
      have HG5 := TKept.mk hg5
      have HI5 := TKept.mk hi5
      clear hx5 hg5 hi5
      go_wp2
      go_roundw
      case rel => exact ⟨q + 1, s3, o3, k3, c3, by omega, by go_num, HX5, HG5, HI5⟩
      case measure => simp [intOf]; omega
    · obtain rfl : q = n := by omega
      obtain ⟨a0, a1, f0, f1⟩ := ttwo_cells hg.out
      have hbx := hx.out.b1
      obtain ⟨c0, c1', g0, g1⟩ := ttwo_cells hbx
      have hszw := hx.out.l2
      obtain ⟨hs9, hn9⟩ := hI.out.parts
      have HE := TKept.mk (rint_end (w := w) (s := s) (ao := o) (k := kk) (c := c) hbx hx.out.1 (by omega) hs9 hn9)
      clear hbx hs9 hn9
      go_wp2
      exact bodyPost_ret (v := .agg #[.bool s, .slice o kk c]) (by simp [results, Tryz.results15, go_sem, HE.out.2.1, HE.out.2.2]) rfl HE.out.1
end Go.Proofs.YtfhhnfpapgfnmaaGreat

set_option linter.unusedVariables false
set_option linter.unusedSimpArgs false
namespace Go.Proofs.YtfhhnfpapgfnmaaGreat
open Go Go.RowKit
/-- How far the reference's product with one factor has come. -/
structure RtAt (xs zs : List Int) (f : Int) (k : Nat) (c : Int) : Prop where
  len : zs.length = k
  wf : Dg.Wf BN zs
  c0 : 0 ≤ c
  c1 : c ≤ f
  eq : Dg.val BN zs + c * BN ^ k = Dg.val BN (xs.take k) * f
  kl : k ≤ xs.length + 2
  top1 : xs.length < k → c ≤ 1
  top2 : xs.length + 1 < k → c = 0
theorem RtAt.start (xs : List Int) {f : Int} (hf : 0 ≤ f) : RtAt xs [] f 0 0 := ⟨rfl, Dg.Wf.nil _, by omega, hf, by simp [Dg.val], by omega, fun h => by omega, fun h => by omega⟩
theorem RtAt.next {xs zs : List Int} {f c x m : Int} {k : Nat} (h : RtAt xs zs f k c) (hx : x = xs[k]?.getD 0) (hm : m = x * f) (hxb : 0 ≤ x ∧ x < BN) (hf : f ≤ 1000000000) (hk : k < xs.length ∨ 0 < c) :
    0 ≤ m ∧ m ≤ 999999999 * f ∧ RtAt xs (zs ++ [(c + m) % 1000000000]) f (k + 1) ((c + m) / 1000000000) := by
  obtain ⟨hl, hw, c0, c1, hv, hkl, t1, t2⟩ := h
  have hx1 : x < 1000000000 := hxb.2
  have m0 : 0 ≤ m := by rw [hm]; exact Int.mul_nonneg hxb.1 (by omega)
  have m1 : m ≤ 999999999 * f := by rw [hm]; exact Int.mul_le_mul_of_nonneg_right (by omega) (by omega)
  refine ⟨m0, m1, by simp [hl], hw.append (Dg.Wf.one (by omega) (by show _ < (1000000000 : Int); omega)), by omega, by omega, ?_, ?_, ?_, ?_⟩
  · rw [Dg.val_append, Dg.val_one, hl, Dg.val_take_succD, ← hx, Int.pow_succ, Int.add_mul, ← hv]
    have hd : c + m = (c + m) % 1000000000 + BN * ((c + m) / 1000000000) := by unfold BN; omega
    generalize (c + m) % 1000000000 = s at *
    generalize (c + m) / 1000000000 = q at *
    have e1 : BN ^ k * x * f = BN ^ k * m := by rw [hm, Int.mul_assoc]
    have e2 : BN ^ k * (c + m) = BN ^ k * (s + BN * q) := by rw [hd]
    rw [e1]
    simp only [Int.mul_add] at e2
    have e3 : q * (BN ^ k * BN) = BN ^ k * (BN * q) := by simp only [Int.mul_comm, Int.mul_left_comm, Int.mul_assoc]
    rw [e3, Int.mul_comm c]
    omega
  · rcases hk with h | h
    · omega
    · by_cases e : xs.length + 1 < k
      · have := t2 e; omega
      · omega
  · intro h1
    have ex : x = 0 := by rw [hx]; exact Dg.getD_out (by omega)
    have em : m = 0 := by rw [hm, ex, Int.zero_mul]
    subst em
    omega
  · intro h1
    have ex : x = 0 := by rw [hx]; exact Dg.getD_out (by omega)
    have em : m = 0 := by rw [hm, ex, Int.zero_mul]
    have := t1 (by omega)
    subst em
    omega
theorem RtAt.done {xs zs : List Int} {f : Int} {k : Nat} (h : RtAt xs zs f k 0) (hk : xs.length ≤ k) : Dg.val BN zs = Dg.val BN xs * f := by
  have := h.eq
  rw [List.take_of_length_le hk, Int.zero_mul, Int.add_zero] at this
  exact this
set_option maxRecDepth 20000 in
set_option maxHeartbeats 2000000 in
theorem rtimes_any (va : Value) (xs : List Int) (f : Int) (w : World) (ha : Sl .i64 w va xs) (wx : Dg.Wf BN xs) (f0 : 0 ≤ f) (f1 : f ≤ 1000000000) (hxl : xs.length ≤ 17000000000000) :
    Calls Tryz.prog 69 #[va, .int .i64 f] w (TRetR (xs.length + 2) w (Dg.val BN xs * f)) := by
  obtain ⟨ao, cap, rfl, hcap, hmax, hc⟩ := ha
  unfold maxLen at hmax
  have HC := TKept.mk hc
  have WX := TKept.mk wx
  clear hc wx
  go_enter Tryz.func69, Tryz.ntmps69
  go_wp2
  go_loopw [5, 6, 7] (fun o c i wr => ∃ (k : Nat) (cv : Int) (zs : List Int), k ≤ xs.length + 2 ∧ i = .int .i64 k ∧ c = .int .i64 cv ∧ 0 ≤ cv ∧ cv ≤ 1000000000 ∧ TKept (RtAt xs zs f k cv) ∧ TKept (Mine 3 .i64 w.heap.size wr o zs) ∧ TKept (Below w.heap.size w wr)) (fun _ _ i _ => xs.length + 3 - (intOf i).toNat)
  case atStart => exact ⟨0, 0, [], Nat.zero_le _, rfl, rfl, by omega, by omega, ⟨RtAt.start xs f0⟩, ⟨Mine.nil _ _ _ _⟩, ⟨Below.refl _ _⟩⟩
  case round =>
    obtain ⟨k, cv, zs, hk, rfl, rfl, hc0, hc1, hat, hm, hbl⟩ := hrel
    by_cases hcond : k < xs.length ∨ 0 < cv
    · obtain ⟨x, hx⟩ : ∃ x, x = xs[k]?.getD 0 := ⟨_, rfl⟩
      obtain ⟨m, hmm⟩ : ∃ m, x * f = m := ⟨_, rfl⟩
      have hxb := Dg.Wf.getD (show (0 : Int) < BN by decide) WX.out k
      rw [← hx] at hxb
      have hx0 : 0 ≤ x := hxb.1
      have hx1 : x < 1000000000 := hxb.2
      obtain ⟨m0, m1, hnx⟩ := hat.out.next hx hmm.symm hxb f1 hcond
      have HNX := TKept.mk hnx
      have hkl := hnx.kl
      have hlen := hat.out.len
      obtain ⟨d, hd⟩ : ∃ d, (cv + m) % 1000000000 = d := ⟨_, rfl⟩
      obtain ⟨q, hq⟩ : ∃ q, (cv + m) / 1000000000 = q := ⟨_, rfl⟩
      have HD := TKept.mk hd
      have HQ := TKept.mk hq
      have hq0 : 0 ≤ q := by omega
      have hq1 : q ≤ 1000000000 := by omega
      have HMa := Lib.hid (hm.out.alloc (.cells #[.int .i64 d] 3))
      have HNW := Lib.hid (new_one (K := .i64) (x := d) (w := wr.alloc (.cells #[.int .i64 d] 3)) (b := wr.heap.size) (o := 0) (by exact (Row.new (E := 3) (K := .i64) wr [d]).cell (i := 0) (by simp)))
      have HBB := Lib.hid (show w.heap.size ≤ (wr.alloc (.cells #[.int .i64 d] 3)).heap.size by have := hbl.out.size; simp; omega)
      have H1 := Lib.hid (show (zs.length + [d].length) * 8 ≤ 140737488355328 by simp; omega)
      have H2 := Lib.hid (show zs.length + [d].length ≤ maxLen by unfold maxLen; simp; omega)
      have hOwn := TKept.mk hm.out.own
      by_cases hkx : k < xs.length
      · obtain ⟨b, o, rfl, hbs, hcell⟩ := HC.out k hkx
        rw [← hx] at hcell
        have hcl := (hbl.out.cell (p := ⟨b, o + k, none⟩) hbs).trans hcell
        have hmod : (cv + m) % 1000000000 = d := hd
        have HQU := TKept.mk hq
        clear hlen hd hq hcond hxb hx hcell hnx
        go_wp2_with (at_builtin; refine wpList_append_mine _ rfl _ _ 36 rfl 3 .i64 8 Tryz.underlying36 tinfo_i64 w.heap.size _ zs rfl HMa.out HBB.out ⟨wr.heap.size, 0, none⟩ 1 1 [d] rfl rfl HNW.out H1.out H2.out ?_)
        intro v' w5 hm5 hg5 hn5
        have HM5 := TKept.mk hm5
        have HB5 := TKept.mk (hbl.out.grown (tgrowTrans (World.grownBy_alloc wr (.cells #[.int .i64 d] 3) _) hg5) hbl.out.size (fun j hj => (hOwn.out j hj).1))
        clear hm5 hg5 hn5
        go_wp2
        go_roundw
        case rel => exact ⟨k + 1, q, zs ++ [d], by omega, by go_num, congrArg (Value.int .i64) HQU.out, hq0, hq1, ⟨by have := HNX.out; rw [HD.out, HQ.out] at this; exact this⟩, HM5, HB5⟩
        case measure => simp [intOf]; omega
      · have hcv : 0 < cv := by omega
        have ex : x = 0 := by rw [hx]; exact Dg.getD_out (by omega)
        have em : m = 0 := by rw [← hmm, ex, Int.zero_mul]
        subst em
        have hmod : cv % 1000000000 = d := by rw [← hd]; congr 1; omega
        have hquo : cv / 1000000000 = q := by rw [← hq]; congr 1; omega
        have HQU := TKept.mk hquo
        clear hlen hd hq hquo hcond hxb hx hnx hmm ex
        go_wp2_with (at_builtin; refine wpList_append_mine _ rfl _ _ 36 rfl 3 .i64 8 Tryz.underlying36 tinfo_i64 w.heap.size _ zs rfl HMa.out HBB.out ⟨wr.heap.size, 0, none⟩ 1 1 [d] rfl rfl HNW.out H1.out H2.out ?_)
        intro v' w5 hm5 hg5 hn5
        have HM5 := TKept.mk hm5
        have HB5 := TKept.mk (hbl.out.grown (tgrowTrans (World.grownBy_alloc wr (.cells #[.int .i64 d] 3) _) hg5) hbl.out.size (fun j hj => (hOwn.out j hj).1))
        clear hm5 hg5 hn5
        go_wp2
        go_roundw
        case rel => exact ⟨k + 1, q, zs ++ [d], by omega, by go_num, congrArg (Value.int .i64) HQU.out, hq0, hq1, ⟨by have := HNX.out; rw [HD.out, HQ.out] at this; exact this⟩, HM5, HB5⟩
        case measure => simp [intOf]; omega
    · have hcv : cv = 0 := by omega
      subst hcv
      have hd := hat.out.done (by omega)
      have hlen := hat.out.len
      have c1 : ¬ k < xs.length := by omega
      have HS := TKept.mk hm.out.sl
      have HW := TKept.mk hat.out.wf
      have HDN := TKept.mk hd
      have HLL : TKept (zs.length ≤ xs.length + 2) := ⟨by omega⟩
      clear hd hlen
      go_wp2_with fail
      refine (trim_num HS.out HW.out).mono ?_
      rintro e w2 ⟨v2, rfl, rfl, hn2, _⟩
      rw [HDN.out] at hn2
      have HN2 := TKept.mk (hn2.mono HLL.out)
      clear hn2
      go_wp2
      go_ret
      exact ⟨hbl.out, _, rfl, HN2.out⟩
theorem rtimes_num {L : Nat} {va : Value} {m f : Int} {w : World} (ha : NumR L w va m) (f0 : 0 ≤ f) (f1 : f ≤ 1000000000) (hL : L ≤ 17000000000000) :
    Calls Tryz.prog 69 #[va, .int .i64 f] w (TRetR (L + 2) w (m * f)) := by
  obtain ⟨xs, a1, a2, a3, rfl, a5⟩ := ha
  exact (rtimes_any va xs f w a1 a2 f0 f1 (by omega)).mono fun e w' ⟨hb, v', he, hn⟩ => ⟨hb, v', he, hn.mono (by omega)⟩
end Go.Proofs.YtfhhnfpapgfnmaaGreat

set_option linter.unusedVariables false
set_option linter.unusedSimpArgs false
namespace Go.Proofs.YtfhhnfpapgfnmaaGreat
open Go Go.RowKit
def RwAt (xs T : List Int) (k : Nat) (r y : Int) : Prop := T.length = xs.length ∧ Dg.Wf BN T ∧ 0 ≤ r ∧ r < y ∧ Dg.val BN (T.drop k) * y + r = Dg.val BN (xs.drop k)
theorem RwAt.start (xs : List Int) {y : Int} (hy : 0 < y) : RwAt xs (List.replicate xs.length 0) xs.length 0 y :=
  ⟨by simp, Dg.Wf.zeros (by decide) _, by omega, hy, by simp [Dg.val]⟩
theorem RwAt.next {xs T : List Int} {k : Nat} {r y x q r' : Int} (h : RwAt xs T (k + 1) r y) (hk : k < xs.length) (hx : x = xs[k]?.getD 0)
    (he : r * 1000000000 + x = q * y + r') (r0 : 0 ≤ r') (r1 : r' < y) (q0 : 0 ≤ q) (q1 : q < 1000000000) : RwAt xs (T.set k q) k r' y := by
  obtain ⟨hl, hw, _, _, hv⟩ := h
  refine ⟨by simpa using hl, hw.set k q0 q1, r0, r1, ?_⟩
  have e1 : (T.set k q).drop k = q :: T.drop (k + 1) := by
    rw [List.drop_eq_getElem_cons (by simp; omega)]
    simp [List.drop_set]
  have e2 : xs.drop k = x :: xs.drop (k + 1) := by
    rw [List.drop_eq_getElem_cons hk, hx]
    simp [hk]
  rw [e1, e2, Dg.val_cons, Dg.val_cons, ← hv]
  generalize Dg.val BN (T.drop (k + 1)) = t
  unfold BN
  rw [Int.add_mul, Int.mul_add, Int.mul_assoc]
  omega
theorem RwAt.done {xs T : List Int} {r y : Int} (h : RwAt xs T 0 r y) : Dg.Wf BN T ∧ Dg.val BN T = Dg.val BN xs / y ∧ r = Dg.val BN xs % y := by
  obtain ⟨hl, hw, r0, r1, hv⟩ := h
  simp only [List.drop_zero] at hv
  refine ⟨hw, ?_, ?_⟩
  · rw [← hv, Int.add_comm, Int.add_mul_ediv_right _ _ (by omega), Int.ediv_eq_zero_of_lt r0 r1]; omega
  · rw [← hv, Int.add_comm, Int.add_mul_emod_self_right, Int.emod_eq_of_lt r0 r1]
set_option maxRecDepth 20000 in
set_option maxHeartbeats 1000000 in
theorem rdivsmall_any (va : Value) (xs : List Int) (y : Int) (w : World) (ha : Sl .i64 w va xs) (hwa : Dg.Wf BN xs) (hy : 0 < y) (hy1 : y ≤ 1000000000) (hmx : xs.length ≤ 17000000000000) :
    Calls Tryz.prog 70 #[va, .int .i64 y] w fun e w' => ∃ v' r, e = .returned (.tuple #[v', .int .i64 r]) ∧ Below w.heap.size w w' ∧ NumR xs.length w' v' (Dg.val BN xs / y) ∧ r = Dg.val BN xs % y := by
  obtain ⟨ao, cap, rfl, hcap, hmax, hc⟩ := ha
  unfold maxLen at hmax
  have HC := TKept.mk hc
  have WX := TKept.mk hwa
  clear hc hwa
  go_enter Tryz.func70, Tryz.ntmps70
  go_wp2_with (at_make; refine wpList_make_zeros _ rfl _ _ 36 rfl 3 .i64 Tryz.underlying36 tinfo_i64 _ _ xs.length rfl rfl (by omega) (by omega) (by omega) ?_)
  intro w1 hrow hbel
  have HR1 := TKept.mk hrow
  have HB1 := TKept.mk hbel
  clear hrow hbel
  go_wp2
  go_loopw [7, 8] (fun c i wr => ∃ (k : Nat) (j r : Int) (T : List Int), k ≤ xs.length ∧ Hid (j + 1 = k) ∧ i = .int .i64 j ∧ c = .int .i64 r ∧ 0 ≤ r ∧ r < y ∧ TKept (RwAt xs T k r y) ∧ TKept (Row 3 .i64 wr w.heap.size T) ∧ TKept (Below w.heap.size w wr)) (fun _ i _ => (intOf i + 1).toNat)
  case atStart => exact ⟨xs.length, _, 0, _, Nat.le_refl _, by show _ - (1 : Int) + 1 = _; omega, rfl, rfl, by omega, hy, ⟨RwAt.start xs hy⟩, HR1, HB1⟩
  case round =>
    obtain ⟨k, j, r, T, hk, hj, rfl, rfl, hr0, hr1, hat, hr, hbl⟩ := hrel
    have HTL := TKept.mk hat.out.1
    by_cases h0 : 0 < k
    · obtain ⟨k, rfl⟩ : ∃ j, k = j+1 := ⟨k - 1, by omega⟩
      obtain rfl : j = (k : Int) := by have := hj.out; omega
      clear hj
      obtain ⟨b, o, rfl, hbs, hcell⟩ := HC.out k (by omega)
      obtain ⟨x, hx⟩ : ∃ x, x = xs[k]?.getD 0 := ⟨_, rfl⟩
      have hxb := Dg.Wf.getD (show (0 : Int) < BN by decide) WX.out k
      rw [← hx] at hcell hxb
      have hx0 : 0 ≤ x := hxb.1
      have hx1 : x < 1000000000 := hxb.2
      have hcl := (hbl.out.cell (p := ⟨b, o + k, none⟩) hbs).trans hcell
      have hcz := hr.out.cell (i := k) (by have := HTL.out; omega)
      have hfz := hr.out.free k
      have hki : k < xs.length := by omega
      obtain ⟨v, hv⟩ : ∃ v, r * 1000000000 + x = v := ⟨_, rfl⟩
      have hv0 : 0 ≤ v := by omega
      have hv1 : v < 1000000000000000000 := by omega
      have hq0 : 0 ≤ v / y := Int.ediv_nonneg hv0 (by omega)
      have hq1 : v / y < 1000000000 := Int.ediv_lt_of_lt_mul hy (by have := Int.mul_le_mul_of_nonneg_right (show r + 1 ≤ y by omega) (show (0 : Int) ≤ 1000000000 by omega); rw [Int.mul_comm]; omega)
      have hm0 := Int.emod_nonneg v (show y ≠ 0 by omega)
      have hm1 := Int.emod_lt_of_pos v hy
      have hdm : r * 1000000000 + x = v / y * y + v % y := by rw [hv, Int.mul_comm]; exact (Int.mul_ediv_add_emod v y).symm
      have HNX := TKept.mk (hat.out.next hki hx hdm hm0 hm1 hq0 hq1)
      clear hx hcell hxb hdm
      go_wp2
      go_roundw
      case rel => exact ⟨k, (k : Int) - 1, v % y, T.set k (v / y), by omega, by show _ - (1 : Int) + 1 = _; omega, by first | rfl | go_num, rfl, hm0, hm1, HNX, ⟨hr.out.set k _⟩, ⟨hbl.out.setCell (Nat.le_refl _) _⟩⟩
      case measure => simp [intOf] <;> omega
    · obtain rfl : k = 0 := by omega
      obtain rfl : j = -1 := by have := hj.out; omega
      obtain ⟨hdw, hdv, hdr⟩ := hat.out.done
      have HS := TKept.mk (hr.out.slAll (n := xs.length) (cap := xs.length) HTL.out.symm (Nat.le_refl _) (by unfold maxLen; omega))
      have HV := TKept.mk hdv
      have HRR := TKept.mk hdr
      have HW := TKept.mk hdw
      clear hdv hdr hj hdw
      go_wp2_with fail
      refine (trim_num HS.out HW.out).mono ?_
      rintro e w2 ⟨v2, rfl, rfl, hn2, _⟩
      rw [HV.out, HTL.out] at hn2
      have HN2 := TKept.mk hn2
      clear hn2
      go_wp2
      go_ret2
      exact ⟨_, _, rfl, hbl.out, HN2.out, HRR.out⟩
end Go.Proofs.YtfhhnfpapgfnmaaGreat

set_option linter.unusedVariables false
set_option linter.unusedSimpArgs false
/-! The arithmetic of the reference's long division. No program. -/
namespace Go.Proofs.YtfhhnfpapgfnmaaGreat
open Go Go.RowKit
/-- A guessed limb of the quotient is not too great. -/
theorem dn_guess {r y c nn ytop g : Int} (hc : 0 < c) (hr : nn * c ≤ r) (hy : y < (ytop + 1) * c) (hy0 : 0 ≤ y) (ht : 0 ≤ ytop) (hn : 0 ≤ nn) (hry : y ≤ r) (hg : g = max 1 (min 999999999 (nn / (ytop + 1)))) :
    1 ≤ g ∧ g ≤ 999999999 ∧ g * y ≤ r := by
  obtain ⟨q, hq⟩ : ∃ q, q = nn / (ytop + 1) := ⟨_, rfl⟩
  rw [← hq] at hg
  have hq0 : 0 ≤ q := by rw [hq]; exact Int.ediv_nonneg hn (by omega)
  have hq1 : q * (ytop + 1) ≤ nn := by rw [hq]; exact Int.ediv_mul_le _ (by omega)
  refine ⟨by omega, by omega, ?_⟩
  by_cases h1 : g = 1
  · rw [h1, Int.one_mul]; exact hry
  · have hgq : g ≤ q := by omega
    have a1 : g * y ≤ q * y := Int.mul_le_mul_of_nonneg_right hgq hy0
    have a2 : q * y ≤ q * ((ytop + 1) * c) := Int.mul_le_mul_of_nonneg_left (by omega) hq0
    have a3 : q * ((ytop + 1) * c) ≤ nn * c := by rw [← Int.mul_assoc]; exact Int.mul_le_mul_of_nonneg_right hq1 (by omega)
    omega
theorem val_nil_late (B : Int) : Dg.val B [] = 0 := rfl
/-- The limbs of r from place k on, as one number. -/
theorem dn_top {rs : List Int} (hw : Dg.Wf BN rs) (k : Nat) : Dg.val BN (rs.drop k) * BN ^ k ≤ Dg.val BN rs ∧ Dg.val BN rs < (Dg.val BN (rs.drop k) + 1) * BN ^ k := by
  by_cases hk : k ≤ rs.length
  · have e := Dg.val_split BN rs k hk
    have h1 := Dg.val_nonneg (show (0 : Int) < BN by decide) (hw.take k)
    have h2 := Dg.val_lt (show (0 : Int) < BN by decide) (hw.take k)
    rw [show (rs.take k).length = k by simp; omega] at h2
    rw [Int.add_mul, Int.one_mul, Int.mul_comm (Dg.val BN (rs.drop k))]
    omega
  · rw [List.drop_of_length_le (by omega)]
    have h2 := Dg.val_lt (show (0 : Int) < BN by decide) hw
    have h3 := Dg.pow_mono (show (0 : Int) < BN by decide) (show rs.length ≤ k by omega)
    have h1 := Dg.val_nonneg (show (0 : Int) < BN by decide) hw
    simp only [val_nil_late, Int.zero_mul, Int.zero_add, Int.one_mul]
    omega
/-- How far the long division has come: the limbs of x from k on are divided. -/
structure DnAt (xs qs : List Int) (y r : Int) (k : Nat) : Prop where
  len : qs.length = xs.length
  wf : Dg.Wf BN qs
  r0 : 0 ≤ r
  r1 : r < y
  eq : Dg.val BN (qs.drop k) * y + r = Dg.val BN (xs.drop k)
  zero : ∀ i, i < k → qs[i]?.getD 0 = 0
/-- .. and within the round of limb k. -/
structure DnIn (xs qs : List Int) (y r : Int) (k : Nat) : Prop where
  kl : k < xs.length
  len : qs.length = xs.length
  wf : Dg.Wf BN qs
  y0 : 0 < y
  r0 : 0 ≤ r
  eq : Dg.val BN (qs.drop k) * y + r = Dg.val BN (xs.drop k)
  top : qs[k]?.getD 0 * y + r < 1000000000 * y
  zero : ∀ i, i < k → qs[i]?.getD 0 = 0
theorem DnAt.start (xs : List Int) {y : Int} (hy : 0 < y) : DnAt xs (List.replicate xs.length 0) y 0 xs.length :=
  ⟨by simp, Dg.Wf.zeros (by decide) _, by omega, hy, by simp [Dg.val], fun i hi => by simp [List.getElem?_replicate]; split <;> rfl⟩
theorem drop_cons_at {xs : List Int} {k : Nat} (hk : k < xs.length) : xs.drop k = xs[k]?.getD 0 :: xs.drop (k + 1) := by
  rw [List.drop_eq_getElem_cons hk]
  simp [hk]
theorem DnAt.enter {xs qs : List Int} {y r x : Int} {k : Nat} (h : DnAt xs qs y r (k + 1)) (hk : k < xs.length) (hx : x = xs[k]?.getD 0) (hxb : 0 ≤ x ∧ x < BN) : DnIn xs qs y (x + 1000000000 * r) k := by
  obtain ⟨hl, hw, r0, r1, he, hz⟩ := h
  have hx1 : x < 1000000000 := hxb.2
  have hx0 := hxb.1
  have hq : qs[k]?.getD 0 = 0 := hz k (by omega)
  refine ⟨hk, hl, hw, by omega, by omega, ?_, ?_, fun i hi => hz i (by omega)⟩
  · rw [drop_cons_at (show k < qs.length by omega), drop_cons_at hk, hq, ← hx, Dg.val_cons, Dg.val_cons, ← he]
    unfold BN
    rw [Int.zero_add, Int.mul_add, Int.mul_assoc]
    omega
  · rw [hq, Int.zero_mul, Int.zero_add]
    omega
theorem DnIn.next {xs qs : List Int} {y r g c : Int} {k : Nat} (h : DnIn xs qs y r k) (hc : c = qs[k]?.getD 0) (hg0 : 1 ≤ g) (hg : g * y ≤ r) :
    0 ≤ c + g ∧ c + g < 1000000000 ∧ DnIn xs (qs.set k (c + g)) y (r - y * g) k := by
  obtain ⟨hk, hl, hw, y0, r0, he, ht, hz⟩ := h
  have hcb := Dg.Wf.getD (show (0 : Int) < BN by decide) hw k
  rw [← hc] at hcb ht
  have hc0 := hcb.1
  have hlt : c + g < 1000000000 := by
    apply Classical.byContradiction
    intro hn
    have := Int.mul_le_mul_of_nonneg_right (show 1000000000 ≤ c + g by omega) (Int.le_of_lt y0)
    rw [Int.add_mul] at this
    omega
  have hyg : y * g = g * y := Int.mul_comm _ _
  refine ⟨by omega, hlt, hk, by simpa using hl, hw.set k (by omega) hlt, y0, by omega, ?_, ?_, fun i hi => by rw [List.getElem?_set_ne (by omega)]; exact hz i hi⟩
  · have e1 : (qs.set k (c + g)).drop k = (c + g) :: qs.drop (k + 1) := by
      rw [List.drop_eq_getElem_cons (by simp; omega)]
      simp [List.drop_set]
    rw [e1, Dg.val_cons, ← he, drop_cons_at (show k < qs.length by omega), ← hc, Dg.val_cons, hyg]
    simp only [Int.add_mul]
    omega
  · have : (qs.set k (c + g))[k]?.getD 0 = c + g := by rw [List.getElem?_set_self (by omega)]; rfl
    rw [this, Int.add_mul, hyg]
    omega
theorem DnIn.leave {xs qs : List Int} {y r : Int} {k : Nat} (h : DnIn xs qs y r k) (hr : r < y) : DnAt xs qs y r k := ⟨h.len, h.wf, h.r0, hr, h.eq, h.zero⟩
theorem DnAt.done {xs qs : List Int} {y r : Int} (h : DnAt xs qs y r 0) : Dg.val BN qs = Dg.val BN xs / y ∧ r = Dg.val BN xs % y := by
  obtain ⟨hl, hw, r0, r1, he, hz⟩ := h
  simp only [List.drop_zero] at he
  refine ⟨?_, ?_⟩
  · rw [← he, Int.add_comm, Int.add_mul_ediv_right _ _ (by omega), Int.ediv_eq_zero_of_lt r0 r1]; omega
  · rw [← he, Int.add_comm, Int.add_mul_emod_self_right, Int.emod_eq_of_lt r0 r1]
/-- Both scaled by d: the quotient is the same, and the rest is d times the rest. -/
theorem dn_scaled {m n d : Int} (hd : 0 < d) (hn : 0 < n) : m * d / (n * d) = m / n ∧ m * d % (n * d) / d = m % n := by
  refine ⟨Int.mul_ediv_mul_of_pos_left _ _ hd, ?_⟩
  have h0 := Int.emod_nonneg m (show n ≠ 0 by omega)
  have h1 := Int.emod_lt_of_pos m hn
  have e : m * d = m % n * d + n * d * (m / n) := by
    have := Int.emod_add_mul_ediv m n
    have h2 : m * d = (m % n + n * (m / n)) * d := by rw [this]
    rw [h2, Int.add_mul]
    congr 1
    simp only [Int.mul_comm, Int.mul_left_comm, Int.mul_assoc]
  rw [e, Int.add_mul_emod_self_left, Int.emod_eq_of_lt (Int.mul_nonneg h0 (by omega)) (Int.mul_lt_mul_of_pos_right h1 hd)]
  exact Int.mul_ediv_cancel _ (by omega)
end Go.Proofs.YtfhhnfpapgfnmaaGreat

set_option linter.unusedVariables false
set_option linter.unusedSimpArgs false
namespace Go.Proofs.YtfhhnfpapgfnmaaGreat
open Go Go.RowKit
/-- The call returns the limbs of n, at most L of them, in a block of its own. -/
def RetRF (L : Nat) (w : World) (n : Int) (e : Ending) (w' : World) : Prop := Below w.heap.size w w' ∧ ∃ v', e = .returned v' ∧ NumR L w' v' n ∧ Frm w.heap.size v'
set_option maxRecDepth 20000 in
set_option maxHeartbeats 2000000 in
theorem subN_frm (va vb : Value) (xs ys : List Int) (w : World) (ha : Sl .i64 w va xs) (hb : Sl .i64 w vb ys) (wx : Dg.Wf BN xs) (wy : Dg.Wf BN ys) (hle : ys.length ≤ xs.length) (hv : Dg.val BN ys ≤ Dg.val BN xs) (hxl : xs.length ≤ 17000000000000) :
    Calls Tryz.prog 30 #[va, vb] w (RetRF xs.length w (Dg.val BN xs - Dg.val BN ys)) := by
  obtain ⟨ao, cap, rfl, hcap, hmax, hc⟩ := ha
  obtain ⟨bo, bcap, rfl, hbcap, hbmax, hbc⟩ := hb
  unfold maxLen at hmax hbmax
  have HC := TKept.mk hc
  have HBC := TKept.mk hbc
  have WX := TKept.mk wx
  have WY := TKept.mk wy
  have HV := TKept.mk hv
  clear hc hbc wx wy hv
  go_enter Tryz.func30, Tryz.ntmps30
  go_wp2
  go_loopw [5, 6, 7] (fun o c i wr => ∃ (k : Nat) (cv : Int) (zs : List Int), k ≤ xs.length ∧ i = .int .i64 k ∧ c = .int .i64 cv ∧ 0 ≤ cv ∧ cv ≤ 1 ∧ TKept (RsAt xs ys zs k cv) ∧ TKept (Mine 3 .i64 w.heap.size wr o zs) ∧ TKept (Below w.heap.size w wr)) (fun _ _ i _ => xs.length - (intOf i).toNat)
  case atStart => exact ⟨0, 0, [], Nat.zero_le _, rfl, rfl, by omega, by omega, ⟨RsAt.start xs ys⟩, ⟨Mine.nil _ _ _ _⟩, ⟨Below.refl _ _⟩⟩
  case round =>
    obtain ⟨k, cv, zs, hk, rfl, rfl, hc0, hc1, hat, hm, hbl⟩ := hrel
    by_cases hkx : k < xs.length
    · obtain ⟨x, hx⟩ : ∃ x, x = xs[k]?.getD 0 := ⟨_, rfl⟩
      obtain ⟨y, hy⟩ : ∃ y, y = ys[k]?.getD 0 := ⟨_, rfl⟩
      have hxb := Dg.Wf.getD (show (0 : Int) < BN by decide) WX.out k
      have hyb := Dg.Wf.getD (show (0 : Int) < BN by decide) WY.out k
      rw [← hx] at hxb
      rw [← hy] at hyb
      have hx0 : 0 ≤ x := hxb.1
      have hx1 : x < 1000000000 := hxb.2
      have hy0 : 0 ≤ y := hyb.1
      have hy1 : y < 1000000000 := hyb.2
      have hlen := hat.out.len
      obtain ⟨d, q, hd, hd0, hd1, hq0, hq1⟩ : ∃ d q : Int, x - y - cv = d - 1000000000 * q ∧ 0 ≤ d ∧ d < 1000000000 ∧ 0 ≤ q ∧ q ≤ 1 := by
        by_cases h : x - y - cv < 0
        · exact ⟨x - y - cv + 1000000000, 1, by omega, by omega, by omega, by omega, by omega⟩
        · exact ⟨x - y - cv, 0, by omega, by omega, by omega, by omega, by omega⟩
      have HNX := TKept.mk (hat.out.next hx hy hd0 hd1 hq0 hq1 hd)
      have HMa := Lib.hid (hm.out.alloc (.cells #[.int .i64 d] 3))
      have HNW := Lib.hid (new_one (K := .i64) (x := d) (w := wr.alloc (.cells #[.int .i64 d] 3)) (b := wr.heap.size) (o := 0) (by exact (Row.new (E := 3) (K := .i64) wr [d]).cell (i := 0) (by simp)))
      have HBB := Lib.hid (show w.heap.size ≤ (wr.alloc (.cells #[.int .i64 d] 3)).heap.size by have := hbl.out.size; simp; omega)
      have H1 := Lib.hid (show (zs.length + [d].length) * 8 ≤ 140737488355328 by simp; omega)
      have H2 := Lib.hid (show zs.length + [d].length ≤ maxLen by unfold maxLen; simp; omega)
      have hOwn := TKept.mk hm.out.own
      obtain ⟨b, o, rfl, hbs, hcell⟩ := HC.out k hkx
      rw [← hx] at hcell
      have hcl := (hbl.out.cell (p := ⟨b, o + k, none⟩) hbs).trans hcell
      by_cases hky : k < ys.length
      · obtain ⟨b', o', rfl, hbs', hcell'⟩ := HBC.out k hky
        rw [← hy] at hcell'
        have hcl' := (hbl.out.cell (p := ⟨b', o' + k, none⟩) hbs').trans hcell'
        by_cases hneg : x - cv - y < 0
        · obtain rfl : q = 1 := by omega
          obtain rfl : d = x - cv - y + 1000000000 := by omega
          clear hlen hd hx hy hcell hcell' hxb hyb
          go_wp2_with (at_builtin; refine wpList_append_mine _ rfl _ _ 36 rfl 3 .i64 8 Tryz.underlying36 tinfo_i64 w.heap.size _ zs rfl HMa.out HBB.out ⟨wr.heap.size, 0, none⟩ 1 1 [x - cv - y + 1000000000] rfl rfl HNW.out H1.out H2.out ?_)
          intro v' w5 hm5 hg5 hn5
          have HM5 := TKept.mk hm5
          have HB5 := TKept.mk (hbl.out.grown (tgrowTrans (World.grownBy_alloc wr (.cells #[.int .i64 (x - cv - y + 1000000000)] 3) _) hg5) hbl.out.size (fun j hj => (hOwn.out j hj).1))
          clear hm5 hg5 hn5
          go_wp2
          go_roundw
          case rel => exact ⟨k + 1, 1, _, by omega, by go_num, rfl, hq0, hq1, HNX, HM5, HB5⟩
          case measure => simp [intOf]; omega
        · obtain rfl : q = 0 := by omega
          obtain rfl : d = x - cv - y := by omega
          clear hlen hd hx hy hcell hcell' hxb hyb
          go_wp2_with (at_builtin; refine wpList_append_mine _ rfl _ _ 36 rfl 3 .i64 8 Tryz.underlying36 tinfo_i64 w.heap.size _ zs rfl HMa.out HBB.out ⟨wr.heap.size, 0, none⟩ 1 1 [x - cv - y] rfl rfl HNW.out H1.out H2.out ?_)
          intro v' w5 hm5 hg5 hn5
          have HM5 := TKept.mk hm5
          have HB5 := TKept.mk (hbl.out.grown (tgrowTrans (World.grownBy_alloc wr (.cells #[.int .i64 (x - cv - y)] 3) _) hg5) hbl.out.size (fun j hj => (hOwn.out j hj).1))
          clear hm5 hg5 hn5
          go_wp2
          go_roundw
          case rel => exact ⟨k + 1, 0, _, by omega, by go_num, rfl, hq0, hq1, HNX, HM5, HB5⟩
          case measure => simp [intOf]; omega
      · have ey : y = 0 := by rw [hy]; exact Dg.getD_out (by omega)
        subst ey
        by_cases hneg : x - cv < 0
        · obtain rfl : q = 1 := by omega
          obtain rfl : d = x - cv + 1000000000 := by omega
          clear hlen hd hx hy hcell hxb hyb
          go_wp2_with (at_builtin; refine wpList_append_mine _ rfl _ _ 36 rfl 3 .i64 8 Tryz.underlying36 tinfo_i64 w.heap.size _ zs rfl HMa.out HBB.out ⟨wr.heap.size, 0, none⟩ 1 1 [x - cv + 1000000000] rfl rfl HNW.out H1.out H2.out ?_)
          intro v' w5 hm5 hg5 hn5
          have HM5 := TKept.mk hm5
          have HB5 := TKept.mk (hbl.out.grown (tgrowTrans (World.grownBy_alloc wr (.cells #[.int .i64 (x - cv + 1000000000)] 3) _) hg5) hbl.out.size (fun j hj => (hOwn.out j hj).1))
          clear hm5 hg5 hn5
          go_wp2
          go_roundw
          case rel => exact ⟨k + 1, 1, _, by omega, by go_num, rfl, hq0, hq1, HNX, HM5, HB5⟩
          case measure => simp [intOf]; omega
        · obtain rfl : q = 0 := by omega
          obtain rfl : d = x - cv := by omega
          clear hlen hd hx hy hcell hxb hyb
          go_wp2_with (at_builtin; refine wpList_append_mine _ rfl _ _ 36 rfl 3 .i64 8 Tryz.underlying36 tinfo_i64 w.heap.size _ zs rfl HMa.out HBB.out ⟨wr.heap.size, 0, none⟩ 1 1 [x - cv] rfl rfl HNW.out H1.out H2.out ?_)
          intro v' w5 hm5 hg5 hn5
          have HM5 := TKept.mk hm5
          have HB5 := TKept.mk (hbl.out.grown (tgrowTrans (World.grownBy_alloc wr (.cells #[.int .i64 (x - cv)] 3) _) hg5) hbl.out.size (fun j hj => (hOwn.out j hj).1))
          clear hm5 hg5 hn5
          go_wp2
          go_roundw
          case rel => exact ⟨k + 1, 0, _, by omega, by go_num, rfl, hq0, hq1, HNX, HM5, HB5⟩
          case measure => simp [intOf]; omega
    · obtain rfl : k = xs.length := by omega
      have hd := hat.out.done hle HV.out
      have HS := TKept.mk hm.out.sl
      have hown : TKept (Frm w.heap.size _) := TKept.mk (fun k hk => (hm.out.own k hk).1)
      have HL := TKept.mk hat.out.len
      have HD := TKept.mk hd.2
      have HW := TKept.mk hd.1
      clear hd
      go_wp2_with fail
      refine (trim_num HS.out HW.out).mono ?_
      rintro e w2 ⟨v2, rfl, rfl, hn2, ho2⟩
      rw [HD.out, HL.out] at hn2
      have HN2 := TKept.mk hn2
      have HF2 := TKept.mk (Frm.of hown.out ho2)
      clear hn2 ho2
      go_wp2
      go_ret
      exact ⟨hbl.out, _, rfl, HN2.out, HF2.out⟩
theorem subN_own {La Lb : Nat} {va vb : Value} {m n : Int} {w : World} (ha : NumR La w va m) (hb : NumR Lb w vb n) (h1 : La ≤ 17000000000000) (hle : n ≤ m) :
    Calls Tryz.prog 30 #[va, vb] w (RetRF La w (m - n)) := by
  obtain ⟨xs, a1, a2, a3, rfl, a5⟩ := ha
  obtain ⟨ys, b1, b2, b3, rfl, b5⟩ := hb
  have hl : ys.length ≤ xs.length := by
    apply Classical.byContradiction
    intro hc
    have := Dg.val_lt_of_len (show (1 : Int) < BN by decide) a2 b2 b3 (by omega)
    omega
  exact (subN_frm va vb xs ys w a1 b1 a2 b2 hl hle (by omega)).mono fun e w' ⟨hb, v', he, hn, hf⟩ => ⟨hb, v', he, hn.mono (by omega), hf⟩
/-- append of a slice, of whatever block, to one of the call's own. -/
theorem trun_append_sl {P : Program} (w : World) (t ty E : TypeId) (K : IntKind) (bytes : Nat) (ht : P.underlying t = some (.slice E))
    (hinfo : (P.info? E).map (fun i => (i.zero, i.size, i.bytes)) = some (some (.int K 0), 1, bytes)) (B : Nat) (v : Value) (xs : List Int) (hM : Mine E K B w v xs) (hB : B ≤ w.heap.size)
    (u : Value) (ys : List Int) (hu : Sl K w u ys) (hb : (xs.length + ys.length) * bytes ≤ 140737488355328) (hm : xs.length + ys.length ≤ maxLen) :
    ∃ v' w', (Builtin.append_ #[t, t] ty #[v, u]).run P w = .ok v' w' ∧ Mine E K B w' v' (xs ++ ys) ∧ w.grownBy w' v.ownBlock := by
  obtain ⟨ao, cap, rfl, hcap, hmax, hx⟩ := hu
  cases ao with
  | some a =>
    obtain ⟨v', w', h1, h2, h3, _⟩ := run_append_mine (P := P) w t ty E K bytes ht hinfo B v xs hM hB a cap ys (fun j q hj => by
      have hjl : j < ys.length := by
        apply Classical.byContradiction
        intro hc
        simp [hc] at hj
      obtain ⟨b, o, e, _, hcell⟩ := hx j hjl
      obtain rfl := Option.some.inj e
      have e : (⟨b, o, none⟩ : Addr).add j = ⟨b, o + j, none⟩ := by
        unfold Addr.add
        split <;> simp_all
      rw [e, hcell]
      simp [hjl] at hj ⊢
      exact hj) hb hm
    exact ⟨v', w', h1, h2, h3⟩
  | none =>
    have he : ys = [] := by
      cases ys with
      | nil => rfl
      | cons y t =>
        obtain ⟨b, o, e, _⟩ := hx 0 (by simp)
        cases e
    subst he
    obtain ⟨i, hi, hz, hs, hby⟩ := info_parts hinfo
    obtain ⟨ao, c, rfl, hc, _⟩ := hM.sl
    refine ⟨_, w, run_append_nothing w t t ty E i ht hi ao xs.length c hc (.slice none 0 cap) (Src.ofNil w ht cap), ?_, ⟨rfl, rfl, rfl, Nat.le_refl _, fun _ _ _ => rfl⟩⟩
    rw [List.append_nil]
    exact hM
theorem twpList_append_sl {P : Program} (w : World) {ops : Array Oper} {rest : List Oper} {o : Oper} {a : Act} {Q : Exit → Act → World → Prop} (hgd : o.guard = none) (s x : Operand) (t : TypeId)
    (ho : o.op = .call { callee := .builtin .append, args := #[s, x], argTypes := #[t, t] }) (E : TypeId) (K : IntKind) (bytes : Nat) (ht : P.underlying t = some (.slice E))
    (hinfo : (P.info? E).map (fun i => (i.zero, i.size, i.bytes)) = some (some (.int K 0), 1, bytes)) (B : Nat) (v : Value) (xs : List Int) (hs : a.eval s = v) (hM : Mine E K B w v xs) (hB : B ≤ w.heap.size)
    (u : Value) (ys : List Int) (hx : a.eval x = u) (hu : Sl K w u ys)
    (hb : (xs.length + ys.length) * bytes ≤ 140737488355328) (hm : xs.length + ys.length ≤ maxLen)
    (h : ∀ v' w', Mine E K B w' v' (xs ++ ys) → w.grownBy w' v.ownBlock → wpList P ops Q rest (a.put o.dst v') w') : wpList P ops Q (o :: rest) a w := by
  refine wpList_plain hgd fun K' hK => ?_
  obtain ⟨v', w', hrun, r1, r2⟩ := trun_append_sl (P := P) w t o.type E K bytes ht hinfo B v xs hM hB u ys hu hb hm
  unfold Oper.wp
  simp [execOp, ho, resolve, invoke, builtin, hs, hx, hrun, Result.andThen]
  exact hK _ _ (h v' w' r1 r2)
/-- A row that is kept where another block is written. -/
theorem NumR.other {L : Nat} {w : World} {v : Value} {n : Int} {g : Nat} (h : NumR L w v n) (hf : Frm (g + 1) v) (i : Nat) (u : Value) : NumR L (w.setCell ⟨g, i, none⟩ u) v n := by
  obtain ⟨xs, ⟨ao, cap, rfl, hc, hm, hx⟩, h2⟩ := h
  refine ⟨xs, ⟨ao, cap, rfl, hc, hm, fun j hj => ?_⟩, h2⟩
  obtain ⟨b, o, rfl, hl, hcell⟩ := hx j hj
  have hne : g + 1 ≤ b := hf b rfl
  refine ⟨b, o, rfl, by simpa using hl, ?_⟩
  rw [← hcell]
  exact World.cell?_setCell_far w ⟨g, i, none⟩ ⟨b, o + j, none⟩ u (by simp; omega)
theorem NumR.up {La Lb : Nat} {w : World} {v : Value} {n : Int} (h : NumR La w v n) (hn : n < BN ^ Lb) : NumR Lb w v n := by
  obtain ⟨xs, a1, a2, a3, rfl, a5⟩ := h
  exact ⟨xs, a1, a2, a3, rfl, Dg.len_le_of_val_lt (by decide) a2 a3 hn⟩
theorem NumR.lt {L : Nat} {w : World} {v : Value} {n : Int} (h : NumR L w v n) : 0 ≤ n ∧ n < BN ^ L := by
  obtain ⟨xs, a1, a2, a3, rfl, a5⟩ := h
  exact ⟨Dg.val_nonneg (by decide) a2, Int.lt_of_lt_of_le (Dg.val_lt (by decide) a2) (Dg.pow_mono (by decide) a5)⟩
end Go.Proofs.YtfhhnfpapgfnmaaGreat
