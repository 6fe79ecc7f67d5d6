/-
  Texts of the proof, merged by program: Cmp1 Cmn Rcm.
-/
import Derived.Test.YtfhhnfpapgfnmaaZTrm
import Derived.Test.YtfhhnfpapgfnmaaZScl
import Derived.Test.YtfhhnfpapgfnmaaZ15
import Derived.Test.YtfhhnfpapgfnmaaZ16
set_option linter.unusedVariables false
set_option linter.unusedSimpArgs false
namespace Go.Proofs.Ytfhhnfpapgfnmaa
namespace FFld
theorem addm_zeros {D : FD} (hk : PK D.p D.k D.m) {pl : List Nat} (h : ∀ a ∈ pl, a < D.p ^ D.k) (c : Nat) : addm D (List.replicate pl.length 0) 0 pl c = rowMul D pl c := by
  refine ext_getD (by rw [addm_len, List.length_replicate, rowMul_len]) fun i hi => ?_
  rw [addm_len, List.length_replicate] at hi
  rw [addm_get c (by rw [List.length_replicate]) (by rw [List.length_replicate]; exact hi), List.getElem?_replicate_of_lt hi, rowMul_get _ _ _ _ hi]
  exact padd_nil hk _ (pmul_lt hk _ _ _)
/-- 1 / the last coefficient. -/
def invT (D : FD) (h : PK D.p D.k D.m) (l : List Nat) : Nat := ppow h (l[l.length - 1]?.getD 0) (D.q - 2)
theorem invT_lt {D : FD} (h : PK D.p D.k D.m) (l : List Nat) : invT D h l < D.p ^ D.k := ppow_lt h _ _
theorem div_zeros {D : FD} (hD : D.Ok) {ql pl : List Nat} {n : Nat} (hq : ∀ a ∈ ql, a < D.p ^ D.k) (hp : ∀ a ∈ pl, a < D.p ^ D.k) (hn : n + ql.length = pl.length + 1) (h1 : 1 ≤ ql.length) (h0 : ql[ql.length - 1]?.getD 0 ≠ 0) :
    ∀ t, t ≤ n → ∀ j, n - t + (ql.length - 1) ≤ j → (divF D ql (invT D hD.pre.pk ql) n pl t)[j]?.getD 0 = 0
  | 0, _, j, hj => by
    show pl[j]?.getD 0 = 0
    rw [List.getElem?_eq_none (by omega)]
    rfl
  | t + 1, ht, j, hj => div_top hD hq hp hn h1 h0 rfl (t := t) (by omega) (fun j' hj' => div_zeros hD hq hp hn h1 h0 t (by omega) j' (by omega)) j (by omega)
theorem rst_short {D : FD} (hD : D.Ok) {ql pl : List Nat} (hq : ∀ a ∈ ql, a < D.p ^ D.k) (hp : ∀ a ∈ pl, a < D.p ^ D.k) (h1 : 1 ≤ ql.length) (h0 : ql[ql.length - 1]?.getD 0 ≠ 0) : (rstF D ql (invT D hD.pre.pk ql) pl).length + 1 ≤ ql.length := by
  unfold rstF
  split
  · omega
  · rename_i hlt
    have hz := div_zeros hD hq hp (n := pl.length + 1 - ql.length) (by omega) h1 h0 (pl.length + 1 - ql.length) (Nat.le_refl _)
    rw [trm_len, divF_len]
    generalize divF D ql (invT D hD.pre.pk ql) (pl.length + 1 - ql.length) pl (pl.length + 1 - ql.length) = X at *
    apply Classical.byContradiction
    intro hc
    rcases trmN_top X pl.length with h | h
    · omega
    · exact h (hz _ (by omega))
/-- Euclid's way. -/
def cmnS (D : FD) (h : PK D.p D.k D.m) (pl ql : List Nat) : Nat → List Nat × List Nat
  | 0 => (pl, ql)
  | i + 1 => ((cmnS D h pl ql i).2, rstF D (cmnS D h pl ql i).2 (invT D h (cmnS D h pl ql i).2) (cmnS D h pl ql i).1)
structure CmOk (D : FD) (N : Nat) (s : List Nat × List Nat) : Prop where
  p1 : ∀ a ∈ s.1, a < D.p ^ D.k
  p2 : ∀ a ∈ s.2, a < D.p ^ D.k
  t1 : Tz s.1
  t2 : Tz s.2
  l1 : s.1.length ≤ N
  l2 : s.2.length ≤ N
theorem Tz.top {l : List Nat} (h : Tz l) (h0 : l.length ≠ 0) : l[l.length - 1]?.getD 0 ≠ 0 := h.resolve_left h0
theorem CmOk.next {D : FD} (hD : D.Ok) {N : Nat} {s : List Nat × List Nat} (h : CmOk D N s) (h0 : s.2.length ≠ 0) : CmOk D N (s.2, rstF D s.2 (invT D hD.pre.pk s.2) s.1) := by
  have := rst_short hD h.p2 h.p1 (by omega) (h.t2.top h0)
  have := h.l2
  exact ⟨h.p2, rstF_lt hD.pre.pk _ _ h.p1, h.t2, rstF_tz D _ _ h.t1, h.l2, by show (rstF D s.2 (invT D hD.pre.pk s.2) s.1).length ≤ N; omega⟩
theorem cmn_ok {D : FD} (hD : D.Ok) {N : Nat} {pl ql : List Nat} (h : CmOk D N (pl, ql)) : ∀ i, (∀ j, j < i → (cmnS D hD.pre.pk pl ql j).2.length ≠ 0) → CmOk D N (cmnS D hD.pre.pk pl ql i)
  | 0, _ => h
  | i + 1, hj => (cmn_ok hD h i fun j hji => hj j (by omega)).next hD (hj i (Nat.lt_succ_self i))
/-- Divided by the last coefficient. -/
def monF (D : FD) (h : PK D.p D.k D.m) (l : List Nat) : List Nat := if l.length = 0 then [] else rowMul D l (invT D h l)
theorem mon_tz {D : FD} (hD : D.Ok) {l : List Nat} (hl : ∀ a ∈ l, a < D.p ^ D.k) (ht : Tz l) (h0 : l.length ≠ 0) : trm (rowMul D l (invT D hD.pre.pk l)) = monF D hD.pre.pk l := by
  have hk := hD.pre.pk
  have e : monF D hD.pre.pk l = rowMul D l (invT D hD.pre.pk l) := by unfold monF; rw [if_neg h0]
  rw [e]
  refine trm_self (.inr ?_)
  rw [rowMul_len, rowMul_get _ _ _ _ (by omega)]
  have hq : l[l.length - 1]?.getD 0 < D.p ^ D.k := getD_lt (Nat.pow_pos hk.p0) hl _
  have hx := hD.div_mul (a := 1) (b := l[l.length - 1]?.getD 0) hk.one_lt hq (ht.top h0)
  rw [pmul_comm hk _ _ hk.one_lt hq, pmul_by_one hk _ hq] at hx
  unfold invT
  rw [hx]
  omega
/-- What Common returns. -/
def CmnIs (D : FD) (h : PK D.p D.k D.m) (pl ql out : List Nat) : Prop := ∃ i, (∀ j, j < i → (cmnS D h pl ql j).2.length ≠ 0) ∧ (cmnS D h pl ql i).2.length = 0 ∧ out = monF D h (cmnS D h pl ql i).1
theorem CmnIs.eq {D : FD} {h : PK D.p D.k D.m} {pl ql o1 o2 : List Nat} (h1 : CmnIs D h pl ql o1) (h2 : CmnIs D h pl ql o2) : o1 = o2 := by
  obtain ⟨i, a1, a2, a3⟩ := h1
  obtain ⟨j, b1, b2, b3⟩ := h2
  have e : i = j := by
    rcases Nat.lt_trichotomy i j with h | h | h
    · exact absurd a2 (b1 i h)
    · exact h
    · exact absurd b2 (a1 j h)
  subst e
  rw [a3, b3]
theorem monF_len (D : FD) (h : PK D.p D.k D.m) (l : List Nat) : (monF D h l).length = l.length := by
  unfold monF
  split
  · rename_i e; rw [e]; rfl
  · exact rowMul_len _ _ _
theorem CmnIs.len {D : FD} (hD : D.Ok) {N : Nat} {pl ql o : List Nat} (ho : CmOk D N (pl, ql)) (h : CmnIs D hD.pre.pk pl ql o) : o.length ≤ N := by
  obtain ⟨i, a1, a2, a3⟩ := h
  rw [a3, monF_len]
  exact (cmn_ok hD ho i a1).l1
end FFld
end Go.Proofs.Ytfhhnfpapgfnmaa

set_option linter.unusedVariables false
set_option linter.unusedSimpArgs false
namespace Go.Proofs.Ytfhhnfpapgfnmaa
open Go Go.RowKit Go.Deep
open FFld (ints)
set_option maxRecDepth 20000 in
set_option maxHeartbeats 4000000 in
theorem monic_any {D : FFld.FD} {b : Nat} (hD : D.Ok) (v : Value) (pl : List Nat) (w : World) (hf : FldB D w b) (hp : Sl .i64 w v (ints pl)) (hpq : ∀ a ∈ pl, a < D.p ^ D.k) (ht : FFld.Tz pl) (hpl : pl.length ≤ 1000) :
    Calls Try.prog 132 #[.pointer (some ⟨b, 0, none⟩), v] w (fun e w' => Below w.heap.size w w' ∧ ∃ v, e = .returned v ∧ Sl .i64 w' v (ints (FFld.monF D hD.pre.pk pl))) := by
  obtain ⟨ap, cp, hvp, hcp, hmp⟩ := hp.form
  subst hvp
  rw [FFld.ints_len] at hcp hp ⊢
  obtain ⟨n, hn⟩ : ∃ n, pl.length = n := ⟨_, rfl⟩
  rw [hn] at hcp hpl hp ⊢
  have HN := Kept.mk hn
  have HP := Kept.mk hp
  have HF := Kept.mk hf
  have HT := Kept.mk ht
  have HPQ := Kept.mk hpq
  clear hn hp hf ht hpq
  go_enter Try.func132, Try.ntmps132
  go_wp2_with (at_make; refine wpList_make_zeros _ rfl _ _ 34 rfl 3 .i64 Try.underlying34 info_i64 _ _ n rfl rfl (by omega) (by omega) (by omega) ?_)
  intro w3 hrow hbel
  rw [FFld.ints_rep] at hrow
  have HW3 := Kept.mk hrow.wv
  have HB3 := Kept.mk (show Below w.heap.size w w3 by simpa using hbel)
  clear hrow hbel
  by_cases h0 : 0 < n
  · obtain ⟨bp, op, rfl, hbp, hcell⟩ := (HP.out.below HB3.out).news_at (n - 1) (by rw [FFld.ints_len, HN.out]; omega)
    obtain ⟨m, rfl⟩ : ∃ m, n = m + 1 := ⟨n - 1, by omega⟩
    rw [FFld.ints_get] at hcell
    simp only [Nat.add_sub_cancel] at hcell
    obtain ⟨x, hx⟩ : ∃ x, pl[m]?.getD 0 = x := ⟨_, rfl⟩
    rw [hx] at hcell
    have hxq : x < D.p ^ D.k := by rw [← hx]; exact FFld.getD_lt (Nat.pow_pos hD.pre.pk.p0) HPQ.out _
    have hx0 : x ≠ 0 := by
      have := HT.out.top (by rw [HN.out]; omega)
      rw [HN.out, Nat.add_sub_cancel, hx] at this
      exact this
    have HIV : Kept (FFld.ppow hD.pre.pk x (D.q - 2) = FFld.invT D hD.pre.pk pl) := ⟨by unfold FFld.invT; rw [HN.out, Nat.add_sub_cancel, hx]⟩
    have HI := Kept.mk (fun W (hW : Below w.heap.size w W) => inverse_any hD x W (HF.out.below hW) hxq hx0)
    rw [HIV.out] at HI
    obtain ⟨iv, hiv⟩ : ∃ iv, FFld.invT D hD.pre.pk pl = iv := ⟨_, rfl⟩
    have hivq : iv < D.p ^ D.k := by rw [← hiv]; exact FFld.invT_lt _ _
    have HIQ := Kept.mk hivq
    rw [hiv] at HI
    have HE : Kept (FFld.monF D hD.pre.pk pl = FFld.addm D (List.replicate (m + 1) 0) 0 pl iv) := ⟨by
      have := FFld.addm_zeros hD.pre.pk HPQ.out iv
      rw [HN.out] at this
      rw [this]
      unfold FFld.monF
      rw [if_neg (by rw [HN.out]; omega), hiv]⟩
    clear hx hxq hx0 hiv hivq HIV
    go_wp2_with fail
    refine (HI.out _ HB3.out).mono ?_
    rintro e w4 ⟨hb4, rfl⟩
    have HB4 := Kept.mk (bstep HB3.out hb4)
    have HW4 := Kept.mk (HW3.out.below hb4)
    have HAM := Kept.mk (addMultiple_any (D := D) (b := b) (g := w.heap.size) (s := 0) (n := m + 1) (cc := m + 1) (ao := some ⟨bp, op, none⟩) (cap := cp) w w4 HF.out HB4.out (Nat.le_refl _) (List.replicate (m + 1) 0) HW4.out (fun a ha => by rw [List.eq_of_mem_replicate ha]; exact Nat.pow_pos hD.pre.pk.p0) pl (HP.out.qc HB4.out (Nat.le_refl _)) HPQ.out (by rw [List.length_replicate, HN.out]; omega) (by rw [HN.out]; exact Nat.le_refl _) iv HIQ.out (by rw [HN.out]; omega))
    rw [HN.out] at HAM
    clear hb4 hcell
    go_wp2_with fail
    refine HAM.out.mono ?_
    rintro e w5 ⟨rfl, hg5, hw5⟩
    rw [← HE.out] at hw5
    have HB5 := Kept.mk (belowGrow hg5 HB4.out (Nat.le_refl _))
    have HS5 := Kept.mk (hw5.sl (n := m + 1) (c := m + 1) (by rw [FFld.monF_len, HN.out]) (Nat.le_refl _) (by unfold maxLen; omega))
    clear hg5 hw5 HAM HI
    go_wp2
    go_ret
    exact ⟨HB5.out, _, rfl, HS5.out⟩
  · obtain rfl : n = 0 := by omega
    have HE : Kept (FFld.monF D hD.pre.pk pl = []) := ⟨by unfold FFld.monF; rw [if_pos HN.out]⟩
    have HS : Kept (Sl .i64 w3 (.slice (some ⟨w.heap.size, 0, none⟩) 0 0) (ints [])) := ⟨HW3.out.sl (n := 0) (c := 0) rfl (Nat.le_refl _) (by unfold maxLen; omega)⟩
    go_wp2
    go_ret
    exact ⟨HB3.out, _, rfl, by rw [HE.out]; exact HS.out⟩
set_option maxRecDepth 20000 in
set_option maxHeartbeats 4000000 in
theorem common_any {D : FFld.FD} {b : Nat} (hD : D.Ok) (vp vq : Value) (pl ql : List Nat) (w : World) (hf : FldB D w b) (hp : Sl .i64 w vp (ints pl)) (hq : Sl .i64 w vq (ints ql)) (ho : FFld.CmOk D 1000 (pl, ql)) :
    Calls Try.prog 96 #[.pointer (some ⟨b, 0, none⟩), vp, vq] w (fun e w' => Below w.heap.size w w' ∧ ∃ v o, e = .returned v ∧ Sl .i64 w' v (ints o) ∧ FFld.CmnIs D hD.pre.pk pl ql o) := by
  have HF := Kept.mk hf
  have HP := Kept.mk hp
  have HQ := Kept.mk hq
  have HO := Kept.mk ho
  clear hf hp hq ho
  go_enter Try.func96, Try.ntmps96
  go_wp2
  go_loopw [1, 2] (fun pv qv wr => ∃ (i : Nat), Kept (∀ j, j < i → (FFld.cmnS D hD.pre.pk pl ql j).2.length ≠ 0) ∧ Kept (Sl .i64 wr pv (ints (FFld.cmnS D hD.pre.pk pl ql i).1)) ∧ Kept (Sl .i64 wr qv (ints (FFld.cmnS D hD.pre.pk pl ql i).2)) ∧ Kept (Below w.heap.size w wr)) (fun _ qv _ => sliceLen qv)
  case atStart => exact ⟨0, ⟨fun j hj => absurd hj (Nat.not_lt_zero _)⟩, HP, HQ, ⟨Below.refl _ _⟩⟩
  case round =>
    obtain ⟨i, hi, hsp, hsq, hbx⟩ := hrel
    have HOK := Kept.mk (FFld.cmn_ok hD HO.out i hi.out)
    have HNX : Kept (FFld.cmnS D hD.pre.pk pl ql (i + 1) = ((FFld.cmnS D hD.pre.pk pl ql i).2, FFld.rstF D (FFld.cmnS D hD.pre.pk pl ql i).2 (FFld.invT D hD.pre.pk (FFld.cmnS D hD.pre.pk pl ql i).2) (FFld.cmnS D hD.pre.pk pl ql i).1)) := ⟨rfl⟩
    have HIS : Kept ((FFld.cmnS D hD.pre.pk pl ql i).2.length = 0 → FFld.CmnIs D hD.pre.pk pl ql (FFld.monF D hD.pre.pk (FFld.cmnS D hD.pre.pk pl ql i).1)) := ⟨fun h => ⟨i, hi.out, h, rfl⟩⟩
    have HST : Kept ((FFld.cmnS D hD.pre.pk pl ql i).2.length ≠ 0 → ∀ j, j < i + 1 → (FFld.cmnS D hD.pre.pk pl ql j).2.length ≠ 0) := ⟨fun h j hj => by
      by_cases e : j = i
      · rw [e]; exact h
      · exact hi.out j (by omega)⟩
    obtain ⟨al, hal⟩ : ∃ al, (FFld.cmnS D hD.pre.pk pl ql i).1 = al := ⟨_, rfl⟩
    obtain ⟨bl, hbl⟩ : ∃ bl, (FFld.cmnS D hD.pre.pk pl ql i).2 = bl := ⟨_, rfl⟩
    rw [hal, hbl] at HNX
    rw [hal] at hsp HIS
    rw [hbl] at hsq HIS HST
    have HOA : Kept (FFld.CmOk D 1000 (al, bl)) := ⟨by
      have := HOK.out
      rw [show FFld.cmnS D hD.pre.pk pl ql i = (al, bl) from Prod.ext hal hbl] at this
      exact this⟩
    have hsp0 := hsp.out
    obtain ⟨apv, cpv, rfl, hcpv, hmpv⟩ := hsp0.form
    rw [FFld.ints_len] at hcpv hsp ⊢
    obtain ⟨npv, hnpv⟩ : ∃ n, al.length = n := ⟨_, rfl⟩
    have hl1 := HOA.out.l1
    rw [show ((al, bl) : List Nat × List Nat).1.length = npv from hnpv] at hl1
    rw [hnpv] at hcpv hsp ⊢
    have HNP := Kept.mk hnpv
    have hsq0 := hsq.out
    obtain ⟨aq, cq, rfl, hcq, hmq⟩ := hsq0.form
    rw [FFld.ints_len] at hcq hsq ⊢
    obtain ⟨nq, hnq⟩ : ∃ n, bl.length = n := ⟨_, rfl⟩
    have hl2 := HOA.out.l2
    rw [show ((al, bl) : List Nat × List Nat).2.length = nq from hnq] at hl2
    rw [hnq] at hcq hsq HIS HST ⊢
    have HNQ := Kept.mk hnq
    clear hal hbl hsq0 hsp0 HOK hi hnq hnpv
    by_cases h0 : 0 < nq
    · have hds := FFld.rst_short hD HOA.out.p2 HOA.out.p1 (by show 1 ≤ bl.length; rw [HNQ.out]; exact h0) (HOA.out.t2.top (by show bl.length ≠ 0; rw [HNQ.out]; omega))
      have hds2 : (FFld.rstF D bl (FFld.invT D hD.pre.pk bl) al).length < nq := by
        have := hds
        simp only [HNQ.out] at this
        omega
      have HDV := Kept.mk (fun W (hW : FldB D W b) (h1 : Sl .i64 W (.slice apv npv cpv) (ints al)) (h2 : Sl .i64 W (.slice aq nq cq) (ints bl)) => divide_any hD (.slice apv npv cpv) (.slice aq nq cq) al bl W hW h1 h2 HOA.out.p1 HOA.out.p2 (by rw [HNQ.out]; exact h0) (HOA.out.t2.top (by show bl.length ≠ 0; rw [HNQ.out]; omega)) (by rw [HNP.out]; omega) (by rw [HNQ.out]; omega))
      have HH := Kept.mk (HST.out (by omega))
      clear hds HST HIS
      go_wp2_with fail
      refine (HDV.out _ (HF.out.below hbx.out) hsp.out hsq.out).mono ?_
      rintro e w4 ⟨hb4, vq, vr, qs, rs, rfl, hsq4, hsr4, hcase⟩
      obtain ⟨_, e2⟩ := FFld.deRet_eq (by rw [HNQ.out]; exact h0) hcase
      rw [e2] at hsr4
      have HSR := Kept.mk hsr4
      have HSQ := Kept.mk (hsq.out.below hb4)
      have HB4 := Kept.mk (bstep hbx.out hb4)
      have hrf : sliceLen vr < nq := by
        obtain ⟨ar, cr, rfl, _, _⟩ := hsr4.form
        rw [FFld.ints_len]
        exact hds2
      clear hsq4 hsr4 hcase hb4 HDV e2 hds2
      go_wp2
      go_roundw
      case rel => exact ⟨i + 1, HH, ⟨by rw [HNX.out]; exact HSQ.out⟩, ⟨by rw [HNX.out]; exact HSR.out⟩, HB4⟩
      case measure => simp only [sliceLen] at hrf ⊢; exact hrf
    · obtain rfl : nq = 0 := by omega
      have HI2 := Kept.mk (HIS.out rfl)
      have HMO := Kept.mk (fun W (hW : FldB D W b) (h1 : Sl .i64 W (.slice apv npv cpv) (ints al)) => monic_any hD (.slice apv npv cpv) al W hW h1 HOA.out.p1 HOA.out.t1 HOA.out.l1)
      clear HST HIS
      go_wp2_with fail
      refine (HMO.out _ (HF.out.below hbx.out) hsp.out).mono ?_
      rintro e w4 ⟨hb4, v, rfl, hs4⟩
      have HB4 := Kept.mk (bstep hbx.out hb4)
      have HS4 := Kept.mk hs4
      clear hb4 hs4
      go_wp2
      go_ret
      exact ⟨HB4.out, _, _, rfl, HS4.out, HI2.out⟩
end Go.Proofs.Ytfhhnfpapgfnmaa

set_option linter.unusedVariables false
set_option linter.unusedSimpArgs false
namespace Go.Proofs.Ytfhhnfpapgfnmaa
open Go Go.RowKit Go.Deep
open FFld (ints)
set_option maxRecDepth 20000 in
set_option maxHeartbeats 4000000 in
theorem rcommon_any {D : FFld.FD} (hD : D.Ok) (vp vq : Value) (pl ql : List Nat) (w : World) (hp : Sl .i64 w vp (ints pl)) (hq : Sl .i64 w vq (ints ql)) (ho : FFld.CmOk D 1000 (pl, ql)) :
    Calls Try.prog 67 #[rfv D.q D.p D.k D.m, vp, vq] w (fun e w' => Below w.heap.size w w' ∧ ∃ v o, e = .returned v ∧ Sl .i64 w' v (ints o) ∧ FFld.CmnIs D hD.pre.pk pl ql o) := by
  have HX0 : Kept (Bxs w [rbox D.q D.p D.k D.m] (w.alloc (rbox D.q D.p D.k D.m))) := ⟨(Bxs.start w).alloc (by simp) _⟩
  have HP := Kept.mk (hp.below HX0.out.1)
  have HQ := Kept.mk (hq.below HX0.out.1)
  have HO := Kept.mk ho
  clear hp hq ho
  go_enter Try.func67, Try.ntmps67
  go_wp2
  go_loopw [1, 2] (fun pv qv wr => ∃ (i : Nat), Kept (∀ j, j < i → (FFld.cmnS D hD.pre.pk pl ql j).2.length ≠ 0) ∧ Kept (Sl .i64 wr pv (ints (FFld.cmnS D hD.pre.pk pl ql i).1)) ∧ Kept (Sl .i64 wr qv (ints (FFld.cmnS D hD.pre.pk pl ql i).2)) ∧ Kept (Bxs w [rbox D.q D.p D.k D.m] wr)) (fun _ qv _ => sliceLen qv)
  case atStart => exact ⟨0, ⟨fun j hj => absurd hj (Nat.not_lt_zero _)⟩, HP, HQ, HX0⟩
  case round =>
    obtain ⟨i, hi, hsp, hsq, hbx⟩ := hrel
    have HOK := Kept.mk (FFld.cmn_ok hD HO.out i hi.out)
    have HNX : Kept (FFld.cmnS D hD.pre.pk pl ql (i + 1) = ((FFld.cmnS D hD.pre.pk pl ql i).2, FFld.rstF D (FFld.cmnS D hD.pre.pk pl ql i).2 (FFld.invT D hD.pre.pk (FFld.cmnS D hD.pre.pk pl ql i).2) (FFld.cmnS D hD.pre.pk pl ql i).1)) := ⟨rfl⟩
    have HIS : Kept ((FFld.cmnS D hD.pre.pk pl ql i).2.length = 0 → FFld.CmnIs D hD.pre.pk pl ql (FFld.monF D hD.pre.pk (FFld.cmnS D hD.pre.pk pl ql i).1)) := ⟨fun h => ⟨i, hi.out, h, rfl⟩⟩
    have HST : Kept ((FFld.cmnS D hD.pre.pk pl ql i).2.length ≠ 0 → ∀ j, j < i + 1 → (FFld.cmnS D hD.pre.pk pl ql j).2.length ≠ 0) := ⟨fun h j hj => by
      by_cases e : j = i
      · rw [e]; exact h
      · exact hi.out j (by omega)⟩
    obtain ⟨al, hal⟩ : ∃ al, (FFld.cmnS D hD.pre.pk pl ql i).1 = al := ⟨_, rfl⟩
    obtain ⟨bl, hbl⟩ : ∃ bl, (FFld.cmnS D hD.pre.pk pl ql i).2 = bl := ⟨_, rfl⟩
    rw [hal, hbl] at HNX
    rw [hal] at hsp HIS
    rw [hbl] at hsq HIS HST
    have HOA : Kept (FFld.CmOk D 1000 (al, bl)) := ⟨by
      have := HOK.out
      rw [show FFld.cmnS D hD.pre.pk pl ql i = (al, bl) from Prod.ext hal hbl] at this
      exact this⟩
    have hsp0 := hsp.out
    obtain ⟨apv, cpv, rfl, hcpv, hmpv⟩ := hsp0.form
    rw [FFld.ints_len] at hcpv hsp ⊢
    obtain ⟨np, hnpv⟩ : ∃ n, al.length = n := ⟨_, rfl⟩
    have hl1 := HOA.out.l1
    rw [show ((al, bl) : List Nat × List Nat).1.length = np from hnpv] at hl1
    rw [hnpv] at hcpv hsp ⊢
    have HNP := Kept.mk hnpv
    have hsq0 := hsq.out
    obtain ⟨aq, cq, rfl, hcq, hmq⟩ := hsq0.form
    rw [FFld.ints_len] at hcq hsq ⊢
    obtain ⟨nq, hnq⟩ : ∃ n, bl.length = n := ⟨_, rfl⟩
    have hl2 := HOA.out.l2
    rw [show ((al, bl) : List Nat × List Nat).2.length = nq from hnq] at hl2
    rw [hnq] at hcq hsq HIS HST ⊢
    have HNQ := Kept.mk hnq
    obtain ⟨i0, i1, i2, i3⟩ := four_cells hbx.out.b0
    clear hal hbl hsq0 hsp0 HOK hi hnq hnpv
    by_cases h0 : 0 < nq
    · have hds := FFld.rst_short hD HOA.out.p2 HOA.out.p1 (by show 1 ≤ bl.length; rw [HNQ.out]; exact h0) (HOA.out.t2.top (by show bl.length ≠ 0; rw [HNQ.out]; omega))
      have hds2 : (FFld.rstF D bl (FFld.invT D hD.pre.pk bl) al).length < nq := by
        have := hds
        simp only [HNQ.out] at this
        omega
      have HDV := Kept.mk (fun W (h1 : Sl .i64 W (.slice apv np cpv) (ints al)) (h2 : Sl .i64 W (.slice aq nq cq) (ints bl)) => rpdivide_any hD (.slice apv np cpv) (.slice aq nq cq) al bl W h1 h2 HOA.out.p1 HOA.out.p2 (by rw [HNQ.out]; exact h0) (HOA.out.t2.top (by show bl.length ≠ 0; rw [HNQ.out]; omega)) (by rw [HNP.out]; omega) (by rw [HNQ.out]; omega))
      have HH := Kept.mk (HST.out (by omega))
      clear hds HST HIS
      go_wp2_with fail
      refine (HDV.out _ hsp.out hsq.out).mono ?_
      rintro e w4 ⟨hb4, vq, vr, rfl, hsq4, hsr4⟩
      have HSR := Kept.mk hsr4
      have HSQ := Kept.mk (hsq.out.below hb4)
      have HB4 := Kept.mk (hbx.out.below hb4)
      have hrf : sliceLen vr < nq := by
        obtain ⟨ar, cr, rfl, _, _⟩ := hsr4.form
        rw [FFld.ints_len]
        exact hds2
      clear hsq4 hsr4 hb4 HDV hds2 i0 i1 i2 i3
      go_wp2
      go_roundw
      case rel => exact ⟨i + 1, HH, ⟨by rw [HNX.out]; exact HSQ.out⟩, ⟨by rw [HNX.out]; exact HSR.out⟩, HB4⟩
      case measure => simp only [sliceLen] at hrf ⊢; exact hrf
    · obtain rfl : nq = 0 := by omega
      have HI2 := Kept.mk (HIS.out rfl)
      clear HST HIS
      by_cases hp0 : np = 0
      · subst hp0
        have HE : Kept (FFld.monF D hD.pre.pk al = []) := ⟨by unfold FFld.monF; rw [if_pos HNP.out]⟩
        rw [HE.out] at HI2
        clear i0 i1 i2 i3
        go_wp2
        go_ret
        exact ⟨hbx.out.1, _, [], rfl, Sl.nil _ _, HI2.out⟩
      · obtain ⟨bp, op, hap, hbp, hcell⟩ := hsp.out.news_at (np - 1) (by rw [FFld.ints_len, HNP.out]; omega)
        subst hap
        obtain ⟨x, hx⟩ : ∃ x, al[np - 1]?.getD 0 = x := ⟨_, rfl⟩
        rw [FFld.ints_get, hx] at hcell
        have i4 := hcell
        have hxq : x < D.p ^ D.k := by rw [← hx]; exact FFld.getD_lt (Nat.pow_pos hD.pre.pk.p0) HOA.out.p1 _
        have HIV : Kept (FFld.ppow hD.pre.pk x (D.q - 2) = FFld.invT D hD.pre.pk al) := ⟨by unfold FFld.invT; rw [HNP.out, hx]⟩
        have hq6 : D.p ^ D.k ≤ 65536 := hD.pre.small
        have HI := Kept.mk (fun W (hW : Below wr.heap.size wr W) => rinv_any D.q D.p D.k D.m x W hD.pre.pk hxq rfl hq6 (md_ok hD))
        rw [HIV.out] at HI
        obtain ⟨iv, hiv⟩ : ∃ iv, FFld.invT D hD.pre.pk al = iv := ⟨_, rfl⟩
        have hivq : iv < D.p ^ D.k := by rw [← hiv]; exact FFld.invT_lt _ _
        rw [hiv] at HI
        have HE : Kept (FFld.trm (FFld.rowMul D al iv) = FFld.monF D hD.pre.pk al) := ⟨by
          have := FFld.mon_tz hD HOA.out.p1 HOA.out.t1 (by show al.length ≠ 0; rw [HNP.out]; exact hp0)
          simp only [hiv] at this
          exact this⟩
        have HSC := Kept.mk (fun W (hW : Below wr.heap.size wr W) => rscale_any hD (.slice (some ⟨bp, op, none⟩) np cpv) al iv W (hsp.out.below hW) HOA.out.p1 hivq (by rw [HNP.out]; omega))
        rw [HE.out] at HSC
        have e0 : ((np : Int) == 0) = false := by rw [beq_eq_false_iff_ne]; omega
        have enq : IntKind.i64.wrap ((np : Int) - 1) = (np : Int) - 1 := wi (by omega) (by omega)
        have en0 : (1 : Int) ≤ np := by omega
        have enb : (np : Int) - 1 < np := by omega
        have hx6 : x ≤ 65536 := by omega
        have hiv6 : iv ≤ 65536 := by omega
        clear hx hxq hiv hivq hcell hq6
        go_wp2
        go_region_held3 (fun w' => w'.cell? ⟨w.heap.size, 0, none⟩ = some (.int .i64 D.q) ∧ w'.cell? ⟨w.heap.size, 1, none⟩ = some (.int .i64 D.p) ∧ w'.cell? ⟨w.heap.size, 2, none⟩ = some (.int .i64 D.k) ∧ w'.cell? ⟨w.heap.size, 3, none⟩ = some (.int .i64 D.m) ∧ w'.cell? ⟨bp, op + (np - 1), none⟩ = some (.int .i64 x))
          (first | exact ⟨k0, k1, k2, k3, k4⟩ | exact ⟨j0, j1, j2, j3, j4⟩ | exact ⟨i0, i1, i2, i3, i4⟩ | go_keep)
          ((first
            | (go_at_call 115; (with_reducible refine (HI.out _ ?h1).mono ?_); (case h1 => exact (by first | exact Below.refl _ _ | exact (Below.refl _ _).drew)); rintro e v1 ⟨hb1, rfl⟩; have hy1 := Kept.mk (bstep (show Below wr.heap.size wr _ from (by first | exact Below.refl _ _ | exact (Below.refl _ _).drew)) hb1); have j0 := belowCell hy1.out i0; have j1 := belowCell hy1.out i1; have j2 := belowCell hy1.out i2; have j3 := belowCell hy1.out i3; have j4 := belowCell hy1.out i4; clear hb1)
            | (go_at_call 118; (with_reducible refine (HSC.out _ ?h1).mono ?_); (case h1 => exact hy1.out); rintro e v2 ⟨hb2, v9, rfl, hs9⟩; have hy2 := Kept.mk (bstep (show Below wr.heap.size wr _ from hy1.out) hb2); have k0 := belowCell hy2.out i0; have k1 := belowCell hy2.out i1; have k2 := belowCell hy2.out i2; have k3 := belowCell hy2.out i3; have k4 := belowCell hy2.out i4; clear hb2)))
        have HX5 := Kept.mk (hbx.out.below hy2.out)
        have HS5 := Kept.mk hs9
        clear hs9
        go_wp2
        go_ret
        exact ⟨HX5.out.1, _, _, rfl, HS5.out, HI2.out⟩
end Go.Proofs.Ytfhhnfpapgfnmaa
