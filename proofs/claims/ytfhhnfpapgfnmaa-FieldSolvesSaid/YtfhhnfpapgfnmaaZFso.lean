/-
  Texts of the proof, merged by program: Fso.
-/
import Derived.Test.YtfhhnfpapgfnmaaZSvc
import Derived.Test.YtfhhnfpapgfnmaaZRws
import Derived.Test.YtfhhnfpapgfnmaaDnc
import Derived.Test.YtfhhnfpapgfnmaaZ25
import Derived.Test.YtfhhnfpapgfnmaaTam
import Derived.Test.YtfhhnfpapgfnmaaZLca
import Derived.Test.YtfhhnfpapgfnmaaZOpl
set_option linter.unusedVariables false
set_option linter.unusedSimpArgs false
namespace Go.Proofs.Ytfhhnfpapgfnmaa
open Go Go.RowKit Go.Deep
open FFld (ints)
/-- There is a solution, and both find the same one, or there is none, and both say so. -/
theorem solve_cases {D : FFld.FD} (hD : D.Ok) {rows : List (List Nat)} {bl : List Nat} {wd n W : Nat} (hw : FFld.Wfm D wd rows) (hN : rows.length = n) (hb : ∀ a ∈ bl, a < D.p ^ D.k) (hbl : bl.length = n) (h0 : n = 0 → wd = 0) (hW0 : n = 0 → W = 0) (hW1 : n ≠ 0 → W = wd + 1) :
    ((∀ j, (FFld.elimF D hD.pre.pk ⟨rows, idM n, []⟩ wd).cols.length ≤ j → j < n → sopV D (FFld.elimF D hD.pre.pk ⟨rows, idM n, []⟩ wd) bl j = 0) ∧
      (∀ i, i < (FFld.elimF D hD.pre.pk ⟨wideM rows bl n, List.replicate n [], []⟩ W).cols.length → (FFld.elimF D hD.pre.pk ⟨wideM rows bl n, List.replicate n [], []⟩ W).cols[i]?.getD 0 ≠ wd) ∧
      solW (FFld.elimF D hD.pre.pk ⟨wideM rows bl n, List.replicate n [], []⟩ W) wd (FFld.elimF D hD.pre.pk ⟨wideM rows bl n, List.replicate n [], []⟩ W).cols.length = solF D (FFld.elimF D hD.pre.pk ⟨rows, idM n, []⟩ wd) bl wd (FFld.elimF D hD.pre.pk ⟨rows, idM n, []⟩ wd).cols.length) ∨
    ((∃ j, (FFld.elimF D hD.pre.pk ⟨rows, idM n, []⟩ wd).cols.length ≤ j ∧ j < n ∧ sopV D (FFld.elimF D hD.pre.pk ⟨rows, idM n, []⟩ wd) bl j ≠ 0) ∧
      ∃ i, i < (FFld.elimF D hD.pre.pk ⟨wideM rows bl n, List.replicate n [], []⟩ W).cols.length ∧ (FFld.elimF D hD.pre.pk ⟨wideM rows bl n, List.replicate n [], []⟩ W).cols[i]?.getD 0 = wd) := by
  have hk := hD.pre.pk
  by_cases hz : n = 0
  · have ew := h0 hz
    have eW := hW0 hz
    subst hz
    subst ew
    subst eW
    exact .inl ⟨fun j _ h => by omega, fun i hi => by simp [FFld.elimF] at hi, rfl⟩
  · rw [hW1 hz]
    obtain ⟨l1, l2⟩ := solve_link hD hw hN hb hz hbl
    by_cases ha : ∀ j, (FFld.elimF D hD.pre.pk ⟨rows, idM n, []⟩ wd).cols.length ≤ j → j < n → sopV D (FFld.elimF D hD.pre.pk ⟨rows, idM n, []⟩ wd) bl j = 0
    · obtain ⟨e1, e2⟩ := l1 ha
      refine .inl ⟨ha, fun i hi e => ?_, by rw [e1]; exact e2⟩
      have hlt := cols_lt hk (s := ⟨rows, idM n, []⟩) rfl wd
      rw [e1] at hi e
      rw [List.getElem?_eq_getElem hi] at e
      have := hlt _ (List.getElem_mem hi)
      simp only [Option.getD_some] at e
      omega
    · have hex : ∃ j, (FFld.elimF D hD.pre.pk ⟨rows, idM n, []⟩ wd).cols.length ≤ j ∧ j < n ∧ sopV D (FFld.elimF D hD.pre.pk ⟨rows, idM n, []⟩ wd) bl j ≠ 0 := by
        apply Classical.byContradiction
        intro hc
        exact ha fun j h1 h2 => Classical.byContradiction fun h3 => hc ⟨j, h1, h2, h3⟩
      refine .inr ⟨hex, ?_⟩
      obtain ⟨j, h1, h2, h3⟩ := hex
      rw [l2 j h1 h2 h3]
      exact ⟨(FFld.elimF D hD.pre.pk ⟨rows, idM n, []⟩ wd).cols.length, by simp, by simp⟩
set_option maxRecDepth 20000 in
set_option maxHeartbeats 8000000 in
theorem fieldSolves_any (order : Int) (ao : Option Addr) (rows : List (List Int)) (cap : Nat) (vb : Value) (bs : List Int) (w : World) (o0 : -9223372036854775808 ≤ order) (o1 : order ≤ 9223372036854775807) (hcap : rows.length ≤ cap) (hmax : cap ≤ maxLen) (hr : Sls w ao rows) (hrb : ∀ l ∈ rows, I64s l) (hs : Sl .i64 w vb bs) (hbd : I64s bs) :
    Calls Try.prog 12 #[.int .i64 order, .slice ao rows.length cap, vb] w (RB w (.bool true)) := by
  obtain ⟨ab0, cb0, hv0, hcb0, hmb0⟩ := hs.form
  subst hv0
  go_enter Try.func12, Try.ntmps12
  go_wp2_with fail
  refine (some_any order 300 w o0 o1 (by omega) (by omega)).mono ?_
  rintro e w1 ⟨hb1, D, b, hD, hle, hbl, hf, rfl⟩
  have HB1 := Kept.mk hb1
  have HF1 := Kept.mk hf
  have HD := Kept.mk hD
  have hq0 : D.q = D.p ^ D.k := rfl
  have hq6 := hD.pre.small
  have hq1 := hD.pre.pk.one_lt
  rw [← hq0] at hq1
  have hbx : Below w1.heap.size w1 (w1.alloc (rbox D.q D.p D.k D.m)) := (Below.refl _ _).alloc (Nat.le_refl _) _
  obtain ⟨i0, i1, i2, i3⟩ := four_cells (heap_alloc_new w1 (rbox D.q D.p D.k D.m))
  have HX := Kept.mk hbx
  have hns : w1.heap.size < (w1.alloc (rbox D.q D.p D.k D.m)).heap.size := by simp
  have HS := Kept.mk ((hs.below hb1).below hbx)
  have HR := Kept.mk ((hr.below hb1).below hbx)
  have HTM := Kept.mk (fun W (hW : Sls W ao rows) => tame_any hD ao rows cap 8 W hcap hmax hW hrb (by omega))
  have HBD := Kept.mk hbd
  clear hb1 hf hD hbx hq0 hs hbd hr hrb
  have HF := Kept.mk (HF1.out.below HX.out)
  have HB := Kept.mk (bstep HB1.out HX.out)
  clear HF1 HB1
  go_wp2_with fail
  refine (HTM.out _ HR.out).mono ?_
  rintro e w2 ⟨hb2, vm, L, rfl, hrw, hLm⟩
  obtain ⟨am, cm, rfl, hcm, hmm, hsls⟩ := hrw.sls
  rw [hLm] at hsls
  obtain ⟨n, hn⟩ : ∃ n, L.length = n := ⟨_, rfl⟩
  have hmn : (tamM D rows 8).length = n := by
    have e := congrArg List.length hLm
    rw [List.length_map, List.length_map] at e
    rw [← e, hn]
  have hn8 : n ≤ 8 := by rw [← hmn, tamM_len]; omega
  have hn0 : n = 0 → min (rlen rows 0) 8 = 0 := fun h => by
    have : rows.length = 0 := by rw [tamM_len] at hmn; omega
    rw [rlen_zero this]; rfl
  have hwd : min (rlen rows 0) 8 ≤ 8 := by omega
  have hwf : FFld.Wfm D (min (rlen rows 0) 8) (tamM D rows 8) := tamM_wf (by omega) rows 8
  rw [hn] at hcm ⊢
  obtain ⟨m, hm⟩ : ∃ m, tamM D rows 8 = m := ⟨_, rfl⟩
  obtain ⟨wd, hwdd⟩ : ∃ wd, min (rlen rows 0) 8 = wd := ⟨_, rfl⟩
  rw [hm] at hsls hwf hmn
  rw [hwdd] at hwf hn0 hwd
  obtain ⟨W, hW0, hW1⟩ : ∃ W, (n = 0 → W = 0) ∧ (n ≠ 0 → W = wd + 1) := ⟨if n = 0 then 0 else wd + 1, fun h => by rw [if_pos h], fun h => by rw [if_neg h]⟩
  have HM := Kept.mk hsls
  have i0' := i0
  have HWF := Kept.mk hwf
  have HMN := Kept.mk hmn
  have HN0 := Kept.mk hn0
  have HW0 := Kept.mk hW0
  have HW1 := Kept.mk hW1
  have HCM := Kept.mk hcm
  have HMX := Kept.mk hmm
  have hk := HD.out.pre.pk
  have hmm0 := hmm
  unfold maxLen at hmm0
  replace HF := Kept.mk (HF.out.below hb2)
  replace HB := Kept.mk (bstep HB.out hb2)
  replace HS := Kept.mk (HS.out.below hb2)
  have j0 := belowCell hb2 i0
  have j1 := belowCell hb2 i1
  have j2 := belowCell hb2 i2
  have j3 := belowCell hb2 i3
  obtain ⟨g8, hg8⟩ : ∃ g, w1.heap.size = g := ⟨_, rfl⟩
  rw [hg8] at j0 j1 j2 j3 ⊢
  have HEC := Kept.mk (fun X (hF : FldB D X b) (hM : Sls X am (m.map ints)) => echelon_any (b := b) HD.out m am cm wd n X hF hM hcm hmm hmn (by omega) hwf (by omega) hn0)
  have HRE := Kept.mk (fun X (hM : Sls X am (m.map ints)) => rechelon_any HD.out m am cm wd n X hM hcm hmm hmn (by omega) hwf (by omega) hn0)
  have hEO : FFld.EOk D wd 0 n (FFld.elimF D HD.out.pre.pk ⟨m, List.replicate n [], []⟩ wd) := FFld.EOk.elim ⟨hmn, by simp, hwf, fun r hr => by rw [List.eq_of_mem_replicate hr]; simp, by simp⟩ _ wd
  obtain ⟨s0, hs0⟩ : ∃ s, FFld.elimF D HD.out.pre.pk ⟨m, List.replicate n [], []⟩ wd = s := ⟨_, rfl⟩
  rw [hs0] at HEC HRE hEO
  obtain ⟨r, hr⟩ : ∃ r, s0.cols.length = r := ⟨_, rfl⟩
  have hrn : r ≤ n := by rw [← hr]; exact hEO.cl
  obtain ⟨E, hE⟩ : ∃ E, (s0.A.take r).map ints = E := ⟨_, rfl⟩
  have hEl : E.length = r := by rw [← hE, List.length_map, List.length_take, hEO.la]; omega
  have hEr : ∀ l ∈ E, l.length ≤ 1000000 := fun l hl => by
    rw [← hE] at hl
    obtain ⟨x, hx, rfl⟩ := List.mem_map.1 hl
    rw [FFld.ints_len, (hEO.wa x (List.mem_of_mem_take hx)).1]
    omega
  have HRW := Kept.mk (fun X ao bo ca cb (ha : Sls X ao E) (hb : Sls X bo E) h1 h2 h3 h4 => rows_eq ao bo E ca cb r X ha hb hEl h1 h2 h3 h4 hEr)
  have HRR := Kept.mk hr
  have HEE := Kept.mk hE
  clear hb2 hrw hsls hLm hm hn hmn hwf hn0 hwdd i0 i1 i2 i3 i0' HR HTM hcap hmax hmm hcm hg8 hq1 hEO hs0 hr hE hEl hEr hW0 hW1 HX hns
  go_wp2_with fail
  refine (HEC.out _ HF.out HM.out).mono ?_
  rintro e w3 ⟨hb3, G, rfl, hsE⟩
  rw [HRR.out, HEE.out] at hsE
  rw [HRR.out]
  replace HM := Kept.mk (HM.out.below hb3)
  replace HF := Kept.mk (HF.out.below hb3)
  replace HS := Kept.mk (HS.out.below hb3)
  replace HB := Kept.mk (bstep HB.out hb3)
  replace j0 := belowCell hb3 j0
  replace j1 := belowCell hb3 j1
  replace j2 := belowCell hb3 j2
  replace j3 := belowCell hb3 j3
  have HSE := Kept.mk hsE
  clear hb3 hsE HEC
  go_wp2_with fail
  refine (HRE.out _ HM.out).mono ?_
  rintro e w4 ⟨hb4, ar, cr, rfl, hcr, hmr, hsR⟩
  rw [HRR.out, HEE.out] at hsR
  rw [HRR.out] at hcr ⊢
  replace HM := Kept.mk (HM.out.below hb4)
  replace HF := Kept.mk (HF.out.below hb4)
  replace HS := Kept.mk (HS.out.below hb4)
  replace HB := Kept.mk (bstep HB.out hb4)
  replace j0 := belowCell hb4 j0
  replace j1 := belowCell hb4 j1
  replace j2 := belowCell hb4 j2
  replace j3 := belowCell hb4 j3
  replace HSE := Kept.mk (HSE.out.below hb4)
  have HSR := Kept.mk hsR
  have HMR := Kept.mk hmr
  clear hb4 hsR HRE hmr
  go_wp2_with fail
  refine (HRW.out _ _ _ _ _ HSE.out HSR.out (Nat.le_refl _) hcr (by unfold maxLen; omega) HMR.out).mono ?_
  rintro e w5 ⟨hb5, rfl⟩
  replace HM := Kept.mk (HM.out.below hb5)
  replace HF := Kept.mk (HF.out.below hb5)
  replace HS := Kept.mk (HS.out.below hb5)
  replace HB := Kept.mk (bstep HB.out hb5)
  replace j0 := belowCell hb5 j0
  replace j1 := belowCell hb5 j1
  replace j2 := belowCell hb5 j2
  replace j3 := belowCell hb5 j3
  clear hb5 HSE HSR HMR HRW HEE HRR hcr
  have HLI := Kept.mk (fun X (hX : Sl .i64 X (.slice ab0 bs.length cb0) bs) => list_any HD.out (.slice ab0 bs.length cb0) bs n X hX HBD.out (by omega))
  go_wp2_with fail
  refine (HLI.out _ HS.out).mono ?_
  rintro e w6 ⟨hb6, vv, rfl, hmv⟩
  obtain ⟨l1, hl1⟩ : ∃ l, (bs.take n).map (redN D) = l := ⟨_, rfl⟩
  have hn1 : l1.length ≤ n := by rw [← hl1, List.length_map, List.length_take]; omega
  have hlq : ∀ a ∈ l1, a < D.p ^ D.k := fun a ha => by
    rw [← hl1] at ha
    obtain ⟨x, _, rfl⟩ := List.mem_map.1 ha
    exact redN_lt (Nat.le_of_lt hk.one_lt) x
  rw [hl1] at hmv
  obtain ⟨av, cv, rfl, _, _⟩ := hmv.sl.form
  obtain ⟨n1, hq1⟩ : ∃ x, l1.length = x := ⟨_, rfl⟩
  rw [FFld.ints_len, hq1] at hmv ⊢
  rw [hq1] at hn1
  have HMV := Kept.mk (hmv.lower (Nat.le_refl _))
  have HQ1 := Kept.mk hq1
  have HLQ := Kept.mk hlq
  have HB6 := Kept.mk hb6
  clear hb6 hmv hl1 hq1 hlq HLI
  go_wp2
  go_loopw [12] (fun v wr => ∃ (i c : Nat) (a : Option Addr) (l : List Nat), i ≤ n ∧ v = .slice a i c ∧ Kept (l.length = i) ∧ Kept (∀ a ∈ l, a < D.p ^ D.k) ∧ Kept (Mine 3 .i64 w5.heap.size wr (.slice a i c) (ints l)) ∧ Kept (Below w5.heap.size w5 wr)) (fun v _ => n - sliceLen v)
  case atStart => exact ⟨n1, cv, av, l1, hn1, rfl, HQ1, HLQ, HMV, HB6⟩
  case round =>
    clear HMV HQ1 HLQ hn1
    obtain ⟨i, c, a, l, hi, rfl, hll, hlq, hmv, hby⟩ := hrel
    by_cases hlt : i < n
    · have HMa := Kept.mk (hmv.out.alloc (.cells #[.int .i64 1] 3))
      have HNW := Kept.mk (new_one (K := .i64) (x := (1 : Int)) (w := wr.alloc (.cells #[.int .i64 1] 3)) (b := wr.heap.size) (o := 0) (by exact (Row.new (E := 3) (K := .i64) wr [(1 : Int)]).cell (i := 0) (by simp)))
      have HBB := Kept.mk (show w5.heap.size ≤ (wr.alloc (.cells #[.int .i64 1] 3)).heap.size by have := hby.out.size; simp; omega)
      have H1 := Kept.mk (show ((ints l).length + [(1 : Int)].length) * 8 ≤ 140737488355328 by rw [FFld.ints_len, hll.out]; simp; omega)
      have H2 := Kept.mk (show (ints l).length + [(1 : Int)].length ≤ maxLen by rw [FFld.ints_len, hll.out]; unfold maxLen; simp; omega)
      have HLL := Kept.mk (show (l ++ [1]).length = i + 1 by rw [List.length_append, hll.out]; rfl)
      have HLQ : Kept (∀ a ∈ l ++ [1], a < D.p ^ D.k) := ⟨fun a ha => by
        rcases List.mem_append.1 ha with h1 | h1
        · exact hlq.out a h1
        · rw [List.mem_singleton.1 h1]; exact hk.one_lt⟩
      have hOwn := Kept.mk hmv.out.own
      go_wp2_with (at_builtin; refine wpList_append_mine _ rfl _ _ 34 rfl 3 .i64 8 Try.underlying34 info_i64 w5.heap.size (.slice a i c) (ints l) (by rfl) HMa.out HBB.out ⟨wr.heap.size, 0, none⟩ 1 1 [(1 : Int)] (by rfl) rfl HNW.out H1.out H2.out ?_)
      intro v' w7 hm5 hg5 hn5
      have hgg := growTrans (World.grownBy_alloc wr (.cells #[.int .i64 1] 3) _) hg5
      have HB5 := Kept.mk (hby.out.grown hgg hby.out.size (fun j hj => (hOwn.out j hj).1))
      rw [show ints l ++ [(1 : Int)] = ints (l ++ [1]) from by rw [FFld.ints_append]; rfl] at hm5
      have HM5 := Kept.mk hm5
      obtain ⟨a', c', hvv, _, _⟩ := hm5.sl.form
      rw [FFld.ints_len, HLL.out] at hvv
      subst hvv
      clear hm5 hg5 hn5 hgg
      go_wp2
      go_roundw
      case rel => exact ⟨i + 1, c', a', l ++ [1], by omega, rfl, HLL, HLQ, HM5, HB5⟩
      case measure => simp [sliceLen] <;> omega
    · obtain rfl : i = n := by omega
      clear hlt hi
      obtain ⟨w6', hwe⟩ : ∃ X, wr = X := ⟨_, rfl⟩
      have HV := Kept.mk hmv.out.sl
      clear hwe w6'
      replace HM := Kept.mk (HM.out.below hby.out)
      replace HF := Kept.mk (HF.out.below hby.out)
      replace HB := Kept.mk (bstep HB.out hby.out)
      replace j0 := belowCell hby.out j0
      replace j1 := belowCell hby.out j1
      replace j2 := belowCell hby.out j2
      replace j3 := belowCell hby.out j3
      have hcs := solve_cases HD.out HWF.out HMN.out hlq.out hll.out HN0.out HW0.out HW1.out
      have HFS := Kept.mk (fun X (hF : FldB D X b) (hM : Sls X am (m.map ints)) (hV : Sl .i64 X (.slice a i c) (ints l)) => fsolve_any HD.out m am cm _ l wd i X hF hM HCM.out HMX.out hV HMN.out (by omega) HWF.out (by omega) HN0.out hll.out hlq.out)
      have HDN := Kept.mk (fun X (hF : FldB D X b) (hM : Sls X am (m.map ints)) (hV : Sl .i64 X (.slice a i c) (ints l)) => deny_any HD.out m am cm _ l wd i X hF hM HCM.out HMX.out hV HMN.out (by omega) HWF.out (by omega) HN0.out hll.out hlq.out)
      have HRS := Kept.mk (fun X (hM : Sls X am (m.map ints)) (hV : Sl .i64 X (.slice a i c) (ints l)) => rsolve_any HD.out m am cm _ l wd i W X hM HCM.out HMX.out hV HMN.out (by omega) HWF.out (by omega) HN0.out hll.out hlq.out HW0.out HW1.out)
      have HDL := Kept.mk (fun x h1 h2 h3 => denial (i := x) HD.out HWF.out HMN.out hlq.out h1 h2 h3)
      have HRQ : Kept (∀ x, x < i → (FFld.rowAt (FFld.elimF D HD.out.pre.pk ⟨m, idM i, []⟩ wd).R x).length = i ∧ ∀ y ∈ FFld.rowAt (FFld.elimF D HD.out.pre.pk ⟨m, idM i, []⟩ wd).R x, y < D.p ^ D.k) := ⟨fun x hx => by
        have hoe := (eok_start HD.out.pre.pk HWF.out HMN.out).elim HD.out.pre.pk wd
        exact hoe.wr.row (by rw [hoe.lr]; exact hx)⟩
      have HSL : Kept (∀ x, (solF D (FFld.elimF D HD.out.pre.pk ⟨m, idM i, []⟩ wd) l wd x).length = wd) := ⟨fun x => solF_len D _ l wd x⟩
      obtain ⟨s, hs⟩ : ∃ s, FFld.elimF D HD.out.pre.pk ⟨m, idM i, []⟩ wd = s := ⟨_, rfl⟩
      obtain ⟨s', hs'⟩ : ∃ s', FFld.elimF D HD.out.pre.pk ⟨wideM m l i, List.replicate i [], []⟩ W = s' := ⟨_, rfl⟩
      rw [hs, hs'] at hcs
      rw [hs] at HFS HDN HDL HRQ HSL
      rw [hs'] at HRS
      clear hs hs' hmv hby
      rcases hcs with ⟨ca, cb, cc⟩ | ⟨ca, cb⟩
      · have CA := Kept.mk ca
        have CB := Kept.mk cb
        have CC := Kept.mk cc
        clear ca cb cc
        go_wp2_with fail
        refine (HFS.out _ HF.out HM.out HV.out).mono ?_
        rintro e w8 ⟨hb8, hcase⟩
        rcases hcase with ⟨x, h1, h2, h3, _⟩ | ⟨_, vx, rfl, hsx⟩
        · exact absurd (CA.out x h1 h2) h3
        replace HM := Kept.mk (HM.out.below hb8)
        replace HF := Kept.mk (HF.out.below hb8)
        replace HV := Kept.mk (HV.out.below hb8)
        replace HB := Kept.mk (bstep HB.out hb8)
        replace j0 := belowCell hb8 j0
        replace j1 := belowCell hb8 j1
        replace j2 := belowCell hb8 j2
        replace j3 := belowCell hb8 j3
        obtain ⟨ax, cx, rfl, hcx, hmx⟩ := hsx.form
        rw [FFld.ints_len, HSL.out] at hsx hcx ⊢
        have HSX := Kept.mk hsx
        clear hsx hb8
        go_wp2_with fail
        refine (HDN.out _ HF.out HM.out HV.out).mono ?_
        rintro e w9 ⟨hb9, hcase⟩
        rcases hcase with ⟨x, vd, h1, h2, h3, _⟩ | ⟨_, rfl⟩
        · exact absurd (CA.out x h1 h2) h3
        replace HM := Kept.mk (HM.out.below hb9)
        replace HF := Kept.mk (HF.out.below hb9)
        replace HV := Kept.mk (HV.out.below hb9)
        replace HB := Kept.mk (bstep HB.out hb9)
        replace j0 := belowCell hb9 j0
        replace j1 := belowCell hb9 j1
        replace j2 := belowCell hb9 j2
        replace j3 := belowCell hb9 j3
        replace HSX := Kept.mk (HSX.out.below hb9)
        clear hb9
        go_wp2_with fail
        refine (HRS.out _ HM.out HV.out).mono ?_
        rintro e w10 ⟨hb10, hcase⟩
        rcases hcase with ⟨x, h1, h2, _⟩ | ⟨_, vy, rfl, hsy⟩
        · exact absurd h2 (CB.out x h1)
        replace HM := Kept.mk (HM.out.below hb10)
        replace HF := Kept.mk (HF.out.below hb10)
        replace HV := Kept.mk (HV.out.below hb10)
        replace HB := Kept.mk (bstep HB.out hb10)
        replace j0 := belowCell hb10 j0
        replace j1 := belowCell hb10 j1
        replace j2 := belowCell hb10 j2
        replace j3 := belowCell hb10 j3
        replace HSX := Kept.mk (HSX.out.below hb10)
        rw [CC.out] at hsy
        obtain ⟨ay, cy, rfl, hcy, hmy⟩ := hsy.form
        rw [FFld.ints_len, HSL.out] at hsy hcy ⊢
        have HSY := Kept.mk hsy
        have hwl : (ints (solF D s l wd s.cols.length)).length ≤ 1000000 := by rw [FFld.ints_len, HSL.out]; omega
        have HWL := Kept.mk hwl
        clear hsy hb10 hwl
        go_wp2_with fail
        refine (same_eq _ _ _ _ HSX.out HSY.out HWL.out).mono ?_
        rintro e w11 ⟨hb11, rfl⟩
        replace HB := Kept.mk (bstep HB.out hb11)
        clear hb11
        go_wp2_with fail
        refine (awake_any _).mono ?_
        rintro e w12 ⟨hb12, rfl⟩
        replace HB := Kept.mk (bstep HB.out hb12)
        clear hb12
        go_wp2
        go_ret
        exact ⟨HB.out, rfl⟩
      · have CA := Kept.mk ca
        have CB := Kept.mk cb
        clear ca cb
        go_wp2_with fail
        refine (HFS.out _ HF.out HM.out HV.out).mono ?_
        rintro e w8 ⟨hb8, hcase⟩
        rcases hcase with ⟨_, _, _, _, rfl⟩ | ⟨h1, _⟩
        rotate_left
        · obtain ⟨x, q1, q2, q3⟩ := CA.out
          exact absurd (h1 x q1 q2) q3
        replace HM := Kept.mk (HM.out.below hb8)
        replace HF := Kept.mk (HF.out.below hb8)
        replace HV := Kept.mk (HV.out.below hb8)
        replace HB := Kept.mk (bstep HB.out hb8)
        replace j0 := belowCell hb8 j0
        replace j1 := belowCell hb8 j1
        replace j2 := belowCell hb8 j2
        replace j3 := belowCell hb8 j3
        clear hb8
        go_wp2_with fail
        refine (HDN.out _ HF.out HM.out HV.out).mono ?_
        rintro e w9 ⟨hb9, hcase⟩
        rcases hcase with ⟨x, vd, h1, h2, h3, rfl, hsd, ad, cd, rfl⟩ | ⟨h1, _⟩
        rotate_left
        · obtain ⟨x, q1, q2, q3⟩ := CA.out
          exact absurd (h1 x q1 q2) q3
        replace HM := Kept.mk (HM.out.below hb9)
        replace HF := Kept.mk (HF.out.below hb9)
        replace HV := Kept.mk (HV.out.below hb9)
        replace HB := Kept.mk (bstep HB.out hb9)
        replace j0 := belowCell hb9 j0
        replace j1 := belowCell hb9 j1
        replace j2 := belowCell hb9 j2
        replace j3 := belowCell hb9 j3
        have HDT := Kept.mk (HDL.out x h1 h2 h3)
        obtain ⟨ul, hul⟩ : ∃ ul, FFld.rowAt s.R x = ul := ⟨_, rfl⟩
        have hrq := HRQ.out x h2
        rw [hul] at hsd HDT hrq
        have HU := Kept.mk hsd
        have HDF := Kept.mk (fun X (hF : FldB D X b) (hM : Sls X am (m.map ints)) (hV : Sl .i64 X (.slice a i c) (ints l)) (hU : Sl .i64 X (.slice ad i cd) (ints ul)) => fdenies_good HD.out m am cm _ _ l ul wd i X hF hM HCM.out HMX.out hV hU HMN.out (by omega) HWF.out (by omega) HN0.out hll.out hlq.out hrq.1 hrq.2)
        have HDR := Kept.mk (fun X (hM : Sls X am (m.map ints)) (hV : Sl .i64 X (.slice a i c) (ints l)) (hU : Sl .i64 X (.slice ad i cd) (ints ul)) => rdenies_good HD.out m am cm _ _ l ul wd i X hM HCM.out HMX.out hV hU HMN.out (by omega) HWF.out (by omega) HN0.out hll.out hlq.out hrq.1 hrq.2)
        rw [HDT.out] at HDF HDR
        clear hsd hb9 hul hrq h3 h1
        go_wp2_with fail
        refine (HRS.out _ HM.out HV.out).mono ?_
        rintro e w10 ⟨hb10, hcase⟩
        rcases hcase with ⟨_, _, _, rfl⟩ | ⟨h4, _⟩
        rotate_left
        · obtain ⟨y, q1, q2⟩ := CB.out
          have := h4 y q1
          omega
        replace HM := Kept.mk (HM.out.below hb10)
        replace HF := Kept.mk (HF.out.below hb10)
        replace HV := Kept.mk (HV.out.below hb10)
        replace HB := Kept.mk (bstep HB.out hb10)
        replace j0 := belowCell hb10 j0
        replace j1 := belowCell hb10 j1
        replace j2 := belowCell hb10 j2
        replace j3 := belowCell hb10 j3
        replace HU := Kept.mk (HU.out.below hb10)
        clear hb10
        go_wp2_with fail
        refine (HDR.out _ HM.out HV.out HU.out).mono ?_
        rintro e w11 ⟨hb11, rfl⟩
        replace HM := Kept.mk (HM.out.below hb11)
        replace HF := Kept.mk (HF.out.below hb11)
        replace HV := Kept.mk (HV.out.below hb11)
        replace HB := Kept.mk (bstep HB.out hb11)
        replace j0 := belowCell hb11 j0
        replace j1 := belowCell hb11 j1
        replace j2 := belowCell hb11 j2
        replace j3 := belowCell hb11 j3
        replace HU := Kept.mk (HU.out.below hb11)
        clear hb11
        go_wp2_with fail
        refine (HDF.out _ HF.out HM.out HV.out HU.out).mono ?_
        rintro e w12 ⟨hb12, rfl⟩
        replace HB := Kept.mk (bstep HB.out hb12)
        clear hb12
        go_wp2_with fail
        refine (awake_any _).mono ?_
        rintro e w13 ⟨hb13, rfl⟩
        replace HB := Kept.mk (bstep HB.out hb13)
        clear hb13
        go_wp2
        go_ret
        exact ⟨HB.out, rfl⟩
end Go.Proofs.Ytfhhnfpapgfnmaa
