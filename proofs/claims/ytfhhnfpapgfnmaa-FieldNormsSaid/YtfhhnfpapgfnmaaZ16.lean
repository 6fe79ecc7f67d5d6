/-
  Texts of the proof, merged by program: De Fx Fz.
-/
import Derived.Test.YtfhhnfpapgfnmaaZ15
import Derived.Test.YtfhhnfpapgfnmaaZ14
set_option linter.unusedVariables false
set_option linter.unusedSimpArgs false
namespace Go.Proofs.Ytfhhnfpapgfnmaa
open Go Go.RowKit
open FFld (ints)
theorem Sl.qc {w W : World} {ao : Option Addr} {k cap g : Nat} {l : List Nat} (h : Sl .i64 w (.slice ao k cap) (ints l)) (hb : Below w.heap.size w W) (hg : w.heap.size ≤ g) : Qc g ao l W := by
  obtain ⟨ao', cap', e, hc, hm, hx⟩ := h
  simp only [Value.slice.injEq] at e
  obtain ⟨rfl, e2, rfl⟩ := e
  intro i hi
  obtain ⟨b, o, e, hl, hcell⟩ := hx i (by rw [FFld.ints_len]; exact hi)
  rw [FFld.ints_get] at hcell
  exact ⟨b, o, e, by omega, Nat.lt_of_lt_of_le hl hb.size, (hb.cell (p := ⟨b, o + i, none⟩) hl).trans hcell⟩
theorem Wv.setOther {w : World} {g g' i : Nat} {l : List Nat} (h : Wv w g l) (hne : g ≠ g') (v : Value) : Wv (w.setCell ⟨g', i, none⟩ v) g l := by
  obtain ⟨cur, h1, h2, h3⟩ := h
  exact ⟨cur, (heap_setCell_other w ⟨g', i, none⟩ g v (by simpa using hne)).trans h1, h2, h3⟩
/-- What divide returns: the rest (and a quotient). -/
def DeRet (D : FFld.FD) (ql : List Nat) (inv : Nat) (pl : List Nat) (w : World) (e : Ending) (w' : World) : Prop := Below w.heap.size w w' ∧ ∃ (vq vr : Value) (qs rs : List Nat), e = .returned (.tuple #[vq, vr]) ∧ Sl .i64 w' vq (ints qs) ∧ Sl .i64 w' vr (ints rs) ∧
  if pl.length < ql.length then qs = [] ∧ rs = pl
  else qs.length = pl.length + 1 - ql.length ∧ (∀ t, t < qs.length → qs[qs.length - 1 - t]?.getD 0 = FFld.divQ D ql inv qs.length pl t) ∧
    ∃ n, n ≤ pl.length ∧ rs = (FFld.divF D ql inv qs.length pl qs.length).take n ∧ (∀ i, n ≤ i → (FFld.divF D ql inv qs.length pl qs.length)[i]?.getD 0 = 0) ∧ (n = 0 ∨ (FFld.divF D ql inv qs.length pl qs.length)[n - 1]?.getD 0 ≠ 0)
set_option maxRecDepth 20000 in
set_option maxHeartbeats 4000000 in
theorem divide_any {D : FFld.FD} {b : Nat} (hD : D.Ok) (vp vq : Value) (pl ql : List Nat) (w : World) (hf : FldB D w b) (hp : Sl .i64 w vp (ints pl)) (hq : Sl .i64 w vq (ints ql)) (hpq : ∀ a ∈ pl, a < D.p ^ D.k) (hqq : ∀ a ∈ ql, a < D.p ^ D.k)
    (hq1 : 1 ≤ ql.length) (hql : ql[ql.length - 1]?.getD 0 ≠ 0) (hpl : pl.length ≤ 100000) (hqll : ql.length ≤ 100000) :
    Calls Try.prog 95 #[.pointer (some ⟨b, 0, none⟩), vp, vq] w (DeRet D ql (FFld.ppow hD.pre.pk (ql[ql.length - 1]?.getD 0) (D.q - 2)) pl w) := by
  obtain ⟨ap, cp, rfl, hcp, hmp⟩ := hp.form
  obtain ⟨aq, cq, rfl, hcq, hmq⟩ := hq.form
  rw [FFld.ints_len] at hcp hcq
  have hC := Kept.mk (clone_any hp (by rw [FFld.ints_len]; omega))
  have HPS := Kept.mk hp
  have HQS := Kept.mk hq
  have HF := Kept.mk hf
  have HPQ := Kept.mk hpq
  have HQQ := Kept.mk hqq
  have HQL := Kept.mk hql
  clear hp hq hf hpq hqq hql
  rw [FFld.ints_len, FFld.ints_len] at *
  go_enter Try.func95, Try.ntmps95
  go_wp2_with fail
  refine hC.out.mono ?_
  rintro e w1 ⟨hb1, v1, rfl, hm1⟩
  obtain ⟨a1, c1, rfl, hc1, hx1⟩ := hm1.sl.form
  rw [FFld.ints_len] at hc1 hm1 ⊢
  have HB1 := Kept.mk hb1
  have HM1 := Kept.mk hm1
  clear hb1 hm1 hC
  by_cases hlt : pl.length < ql.length
  · go_wp2
    go_ret2
    refine ⟨HB1.out, _, _, [], pl, rfl, Sl.nil _ _, HM1.out.sl, ?_⟩
    rw [if_pos hlt]
    exact ⟨rfl, rfl⟩
  · obtain ⟨g, cap', ev, hgB, hgl, _, _, _, _, _⟩ := HM1.out.at (i := 0) (by rw [FFld.ints_len]; omega)
    rw [FFld.ints_len] at ev
    simp only [Value.slice.injEq, true_and] at ev
    obtain ⟨rfl, rfl⟩ := ev
    have HW1 := Kept.mk HM1.out.wv
    obtain ⟨n, hn⟩ : ∃ n, pl.length + 1 - ql.length = n := ⟨_, rfl⟩
    obtain ⟨top, htop⟩ : ∃ top, ql.length - 1 = top := ⟨_, rfl⟩
    have hn1 : 1 ≤ n := by omega
    have etop : (ql.length : Int) - 1 = top := by omega
    have en : (pl.length : Int) - top = n := by omega
    obtain ⟨bq, oq, rfl, _, _, hcell⟩ := (HQS.out.qc HB1.out hgB) top (by omega)
    have hpos : 0 < D.p ^ D.k := Nat.pow_pos hD.pre.pk.p0
    have htq := FFld.getD_lt hpos HQQ.out top
    have htn := HQL.out
    rw [htop] at htn
    obtain ⟨tc, htc⟩ : ∃ tc, ql[top]?.getD 0 = tc := ⟨_, rfl⟩
    rw [htc] at hcell htq htn
    obtain ⟨inv, hinv⟩ : ∃ inv, FFld.ppow hD.pre.pk tc (D.q - 2) = inv := ⟨_, rfl⟩
    have hinvl : inv < D.p ^ D.k := by rw [← hinv]; exact FFld.ppow_lt _ _ _
    have hI := Kept.mk (inverse_any hD tc w1 (HF.out.below HB1.out) htq htn)
    rw [hinv] at hI
    have HINV : Kept (FFld.ppow hD.pre.pk (ql[ql.length - 1]?.getD 0) (D.q - 2) = inv) := ⟨by rw [htop, htc, hinv]⟩
    have HTOP := Kept.mk htop
    have HN := Kept.mk hn
    have hlen1 : top + 1 = ql.length := by omega
    have hlen2 : n + top = pl.length := by omega
    have hbl' : b < w.heap.size := HF.out.lt
    clear hn htop htc hinv htq htn HM1
    go_wp2_with fail
    refine hI.out.mono ?_
    rintro e w2 ⟨hb2, rfl⟩
    have HB2 := Kept.mk (bstep HB1.out hb2)
    have HW2 := Kept.mk (HW1.out.below hb2)
    have hg2 : g < w2.heap.size := HW2.out.lt
    clear hb2 hcell hI HW1
    go_wp2_with (at_make; refine wpList_make_zeros _ rfl _ _ 34 rfl 3 .i64 Try.underlying34 info_i64 _ _ n rfl rfl (by omega) (by omega) (by omega) ?_)
    intro w3 hrow hbel
    rw [FFld.ints_rep] at hrow
    have HQ3 := Kept.mk hrow.wv
    have HW3 := Kept.mk (HW2.out.below hbel)
    have HB3 := Kept.mk (bstep HB2.out hbel)
    have hsz2 := HB2.out.size
    clear hrow hbel HW2
    obtain ⟨_, T, x, fs, fp, fw, ms, ml, hbb, ho, _, _⟩ := HF.out.open
    obtain ⟨c0, _⟩ := six_cells hbb
    have hmp := ho.mp
    have hcp := ho.cp
    have HP := Kept.mk ho.product
    clear ho hbb
    go_wp2
    go_loopw [10] (fun iv wr => ∃ (t : Nat) (z : Int) (qs : List Nat), t ≤ n ∧ iv = .int .i64 z ∧ Hid (z + 1 + t = n) ∧ qs.length = n ∧ Kept (Wv wr g (FFld.divF D ql inv n pl t)) ∧ Kept (Wv wr w2.heap.size qs) ∧ Kept (∀ t', t' < t → qs[n - 1 - t']?.getD 0 = FFld.divQ D ql inv n pl t') ∧ Kept (Below w.heap.size w wr)) (fun iv _ => (intOf iv + 1).toNat)
    case atStart => exact ⟨0, (n : Int) - 1, List.replicate n 0, Nat.zero_le _, rfl, by show (n : Int) - 1 + 1 + ((0 : Nat) : Int) = n; omega, by simp, HW3, HQ3, ⟨fun t' h => by omega⟩, HB3⟩
    case round =>
      obtain ⟨t, z, qs, ht, rfl, hz, hqs, hwv, hqv, hqa, hbl⟩ := hrel
      by_cases htn : t < n
      · obtain ⟨i, hi⟩ : ∃ i, i + 1 + t = n := ⟨n - 1 - t, by omega⟩
        obtain rfl : z = (i : Int) := by have := hz.out; omega
        have eit : n - 1 - t = i := by omega
        obtain ⟨R, hR⟩ : ∃ R, FFld.divF D ql inv n pl t = R := ⟨_, rfl⟩
        have hRl : R.length = pl.length := by rw [← hR]; exact FFld.divF_len _ _ _ _ _ _
        have HRQ := Kept.mk (FFld.divF_lt hD.pre.pk ql inv n t HPQ.out)
        rw [hR] at hwv HRQ
        obtain ⟨r, hr⟩ : ∃ r, R[i + top]?.getD 0 = r := ⟨_, rfl⟩
        obtain ⟨v, hv⟩ : ∃ v, FFld.pmul D.p D.k D.m r D.k inv = v := ⟨_, rfl⟩
        have HV : Kept (FFld.divQ D ql inv n pl t = v) := ⟨by unfold FFld.divQ; rw [hR, eit, HTOP.out, hr, hv]⟩
        have HNX : Kept (FFld.divF D ql inv n pl (t + 1) = FFld.addm D R i ql (FFld.pscl D.p D.k (D.p - 1) v)) := ⟨by simp only [FFld.divF]; rw [hR, eit, HTOP.out, hr, hv]⟩
        have hrq : r < D.p ^ D.k := by rw [← hr]; exact FFld.getD_lt hpos HRQ.out _
        have hvq : v < D.p ^ D.k := by rw [← hv]; exact FFld.pmul_lt hD.pre.pk _ _ _
        have hP := Kept.mk (fun W (hW : Below w.heap.size w W) => HP.out W hW r inv hrq hinvl)
        rw [hv] at hP
        have hNeg := Kept.mk (fun W (hW : Below w.heap.size w W) => negative_any v W (HF.out.below hW) hvq)
        have hAm := Kept.mk (fun W (hW : Below w.heap.size w W) (hwR : Wv W g R) (n' cc : Nat) (hn' : ql.length ≤ n') => addMultiple_any (s := i) (n := n') (cc := cc) (cap := cq) w W HF.out hW hgB R hwR HRQ.out ql (HQS.out.qc hW hgB) HQQ.out (by omega) hn' (FFld.pscl D.p D.k (D.p - 1) v) (FFld.pscl_lt hD.pre.pk _ _) (by omega))
        obtain ⟨nv, hnv⟩ : ∃ nv, FFld.pscl D.p D.k (D.p - 1) v = nv := ⟨_, rfl⟩
        rw [hnv] at hNeg hAm HNX
        have f1 : wr.cell? ⟨b, 0, none⟩ = some (.iface T x) := (hbl.out.cell (p := ⟨b, 0, none⟩) hbl').trans c0
        have r1 := hwv.out.cell (i := i + top) (by omega)
        rw [hr] at r1
        have hgl := hwv.out.lt
        have hgql := hqv.out.lt
        have hwrs := hbl.out.size
        have hij : IntKind.i64.wrap ((i : Int) + top) = (i : Int) + top := wi (by omega) (by omega)
        have hi1 : 0 ≤ (i : Int) + top := by omega
        have hi2 : (i : Int) + top < (pl.length : Int) := by omega
        have hi3 : ((i : Int) + top).toNat = i + top := by omega
        have hin : i < n := by omega
        clear hR hr hv hnv hRl hrq hvq hz
        go_wp2
        go_region_held3 (fun w' => w'.cell? ⟨b, 0, none⟩ = some (.iface T x) ∧ w'.cell? ⟨g, i + top, none⟩ = some (.int .i64 r))
          (first | exact ⟨f1, r1⟩ | exact ⟨k0, k1⟩ | exact ⟨l0, l1⟩ | go_keep)
          ((first
            | ((with_reducible refine (hP.out _ ?_).mono ?_); (exact (by first | exact hbl.out | exact hbl.out.drew)); rintro e w4 ⟨hb4, rfl⟩; have HB4 := Kept.mk (bstep (show Below w.heap.size w _ from (by first | exact hbl.out | exact hbl.out.drew)) hb4); have HR4 : Kept (Below wr.heap.size wr w4) := ⟨(Below.refl _ _).drew.trans hb4⟩; have k0 := (HR4.out.cell (p := ⟨b, 0, none⟩) (by simp only []; omega)).trans f1; have k1 := (HR4.out.cell (p := ⟨g, i + top, none⟩) (by simp only []; omega)).trans r1; have HWQ4 := Kept.mk (hqv.out.below HR4.out); have q4 := HWQ4.out.cell (i := i) (by omega); have z4 := HWQ4.out.free i; have l0 := (World.cell?_of_block (a := ⟨b, 0, none⟩) (heap_setCell_other w4 ⟨w2.heap.size, i, none⟩ b (.int .i64 v) (by simp; omega))).trans k0; have l1 := (World.cell?_of_block (a := ⟨g, i + top, none⟩) (heap_setCell_other w4 ⟨w2.heap.size, i, none⟩ g (.int .i64 v) (by simp; omega))).trans k1; clear hb4)))
        have hq5 := HWQ4.out.set (i := i) v
        have hw5 := (hwv.out.below HR4.out).setOther (i := i) (g' := w2.heap.size) (by omega) (.int .i64 v)
        have hb5 : Below w.heap.size w (w4.setCell ⟨w2.heap.size, i, none⟩ (.int .i64 v)) := HB4.out.setCell (p := ⟨w2.heap.size, i, none⟩) (by simp only []; omega) _
        have hql5 : (qs.set i v).length = n := by rw [List.length_set]; exact hqs
        have qc5 := hq5.cell (i := i) (by omega)
        rw [List.getElem?_set_self (by omega), Option.getD_some] at qc5
        have hs4 := HR4.out.size
        obtain ⟨W5, hW5⟩ : ∃ W, w4.setCell ⟨w2.heap.size, i, none⟩ (.int .i64 v) = W := ⟨_, rfl⟩
        rw [hW5] at hq5 hw5 hb5 qc5
        have HQ5 := Kept.mk hq5
        have HW5 := Kept.mk hw5
        have HB5 := Kept.mk hb5
        clear k0 k1 l0 l1 q4 z4 f1 r1 hij hi1 hi2 hi3 hq5 hw5 hb5 hP hgl hgql
        rw [hW5]
        clear hW5 HWQ4 HB4 HR4 hs4
        have hs1 : (i : Int) ≤ (pl.length : Int) := by omega
        have hs2 : i ≤ pl.length := by omega
        have hs3 : (0 : Int) ≤ (i : Int) := by omega
        have hs5 : (pl.length : Int) ≤ (c1 : Int) := by omega
        have hs6 : ((i : Int) < 0) = False := by simp
        go_wp2
        go_region_held3 (fun w' => w'.cell? ⟨w2.heap.size, i, none⟩ = some (.int .i64 v))
          (first | exact qc5 | exact k5 | exact k6 | go_keep)
          ((first
            | (go_at_call 91; (with_reducible refine (hNeg.out _ ?_).mono ?_); (exact (by first | exact HB5.out | exact HB5.out.drew)); rintro e w6 ⟨hb6, rfl⟩; have HB6 := Kept.mk (bstep (show Below w.heap.size w _ from (by first | exact HB5.out | exact HB5.out.drew)) hb6); have HR6 : Kept (Below W5.heap.size W5 w6) := ⟨(Below.refl _ _).drew.trans hb6⟩; have k5 := (HR6.out.cell (p := ⟨w2.heap.size, i, none⟩) (by have := HQ5.out.lt; simp only []; omega)).trans qc5; clear hb6)
            | (go_at_call 99; (with_reducible refine (hAm.out _ HB6.out (HW5.out.below HR6.out) _ _ (by omega)).mono ?_); rintro e w7 ⟨rfl, hg7, hw7⟩; have HW7 := Kept.mk hw7; have HG7 := Kept.mk hg7; have k6 := hg7.cell k5 (by simp; omega); clear hg7 hw7)))
        go_wp2
        go_roundw
        case rel => exact ⟨t + 1, (i : Int) - 1, qs.set i v, by omega, by go_num, by show (i : Int) - 1 + 1 + ((t + 1 : Nat) : Int) = n; omega, hql5, ⟨by rw [HNX.out]; exact HW7.out⟩, ⟨(HQ5.out.below HR6.out).other HG7.out (by omega)⟩, ⟨fun t' ht' => by
          by_cases e : t' = t
          · subst e
            rw [eit, List.getElem?_set_self (by omega), Option.getD_some, HV.out]
          · rw [List.getElem?_set_ne (by omega)]
            exact hqa.out t' (by omega)⟩, ⟨belowGrow HG7.out HB6.out hgB⟩⟩
        case measure => simp [intOf] <;> omega
      · obtain rfl : t = n := by omega
        obtain rfl : z = -1 := by have := hz.out; omega
        have hfl := FFld.divF_len D ql inv t pl t
        have HSR := Kept.mk (hwv.out.sl (n := pl.length) (c := c1) (by omega) hc1 hx1)
        have HSQ := Kept.mk (hqv.out.sl (n := t) (c := t) (by omega) (Nat.le_refl _) (by unfold maxLen; omega))
        have HT := Kept.mk (trimmed_any (FFld.divF D ql inv t pl t) (some ⟨g, 0, none⟩) c1 wr (by rw [hfl]; exact HSR.out))
        rw [hfl] at HT
        have HFL := Kept.mk hfl
        clear hz hfl
        go_wp2_with fail
        refine HT.out.mono ?_
        rintro e w8 ⟨rfl, m, hm, rfl, hm1, hm2⟩
        have HM1 := Kept.mk hm1
        have HM2 := Kept.mk hm2
        have HWT := Kept.mk ((hwv.out.take m).sl (n := m) (c := m) (by rw [List.length_take, HFL.out]; omega) (Nat.le_refl _) (by unfold maxLen at *; omega))
        clear hm1 hm2
        go_wp2
        go_ret2
        rw [HINV.out]
        refine ⟨hbl.out, _, _, qs, _, rfl, HSQ.out, HWT.out, ?_⟩
        rw [if_neg hlt, hqs]
        exact ⟨HN.out.symm, hqa.out, m, hm, rfl, HM1.out, HM2.out⟩
end Go.Proofs.Ytfhhnfpapgfnmaa

set_option linter.unusedVariables false
set_option linter.unusedSectionVars false
set_option linter.unusedSimpArgs false
namespace Go.Proofs.Ytfhhnfpapgfnmaa
namespace FFld
theorem addm_top {D : FD} (xs : List Nat) (s : Nat) (q : List Nat) (c : Nat) (hq : 1 ≤ q.length) (hs : s + q.length ≤ xs.length) : (addm D xs s q c)[s + (q.length - 1)]?.getD 0 = padd D.p D.k (xs[s + (q.length - 1)]?.getD 0) (pmul D.p D.k D.m (q[q.length - 1]?.getD 0) D.k c) := by
  obtain ⟨j, hj⟩ : ∃ j, q.length = j + 1 := ⟨q.length - 1, by omega⟩
  unfold addm
  rw [hj]
  simp only [addmF, Nat.add_sub_cancel]
  rw [List.getElem?_set_self (by rw [addmF_len]; omega), Option.getD_some, addmF_old D xs s q c j (s + j) (by omega)]
/-- Over a prime field: what is added has the value c x^s q. -/
theorem addmF_evl {D : FD} (hD : D.Ok) (hk1 : D.k = 1) {d y : Nat} (hy : PK D.p d y) {xs : List Nat} (s : Nat) (q : List Nat) (c : Nat) (hx : ∀ a ∈ xs, a < D.p ^ D.k) (hq : ∀ a ∈ q, a < D.p ^ D.k) (hc : c < D.p ^ D.k) (hs : s + q.length ≤ xs.length) :
    ∀ j, j ≤ q.length → evl D.p d y 1 (addmF D xs s q c j) = padd D.p d (evl D.p d y 1 xs) (pscl D.p d c (shn D.p d y (evl D.p d y 1 (q.take j)) s)) := by
  have hpk := hD.pre.pk
  have hm : D.m = D.p := hD.pre.mod1 hk1
  have hpk1 : PK D.p 1 D.p := ⟨hpk.p2, Nat.le_refl _⟩
  have hlt : ∀ a, a < D.p ^ D.k → a < D.p := fun a ha => by rw [hk1, Nat.pow_one] at ha; exact ha
  intro j
  induction j with
  | zero =>
    intro _
    simp only [addmF, List.take_zero, evl]
    rw [shn_zero hy, pscl_nil hy, padd_zero hy _ (evl_lt hy _ _)]
  | succ j ih =>
    intro hj
    have ih := ih (by omega)
    have hu : (addmF D xs s q c j)[s + j]?.getD 0 < D.p := hlt _ (getD_lt (Nat.pow_pos hpk.p0) (addmF_lt hpk s q c j hx) _)
    have hz : q[j]?.getD 0 < D.p := hlt _ (getD_lt (Nat.pow_pos hpk.p0) hq _)
    have e : padd D.p D.k ((addmF D xs s q c j)[s + j]?.getD 0) (pmul D.p D.k D.m (q[j]?.getD 0) D.k c) = ((addmF D xs s q c j)[s + j]?.getD 0 + c * q[j]?.getD 0) % D.p := by
      rw [hm, hk1, pmul_k1 hpk1 _ _ hz (hlt _ hc), padd_k1 hpk1 _ _ hu (Nat.mod_lt _ hpk.p0), Nat.add_mod_mod, Nat.mul_comm c]
    simp only [addmF]
    rw [e]
    exact evl_row hy 1 c s _ q _ j (by omega) (by rw [addmF_len]; omega) ih
theorem addm_evl {D : FD} (hD : D.Ok) (hk1 : D.k = 1) {d y : Nat} (hy : PK D.p d y) {xs : List Nat} (s : Nat) (q : List Nat) (c : Nat) (hx : ∀ a ∈ xs, a < D.p ^ D.k) (hm : Mon D.p d y q) (hc : c < D.p ^ D.k) (hs : s + q.length ≤ xs.length) :
    evl D.p d y 1 (addm D xs s q c) = evl D.p d y 1 xs := by
  unfold addm
  rw [addmF_evl hD hk1 hy s q c hx (fun a ha => by rw [hk1, Nat.pow_one]; exact hm.lt a ha) hc hs q.length (Nat.le_refl _), List.take_length, hm.zero, shn_zero hy, pscl_nil hy, padd_zero hy _ (evl_lt hy _ _)]
/-- The inverse of 1. -/
theorem ppow_1 {p k m : Nat} (h : PK p k m) (n : Nat) : ppow h 1 n = 1 := by
  rw [ppow_of h 1 n h.one_lt]
  exact congrArg Subtype.val ((rng h).one_pow n)
theorem divF_ok {D : FD} (hD : D.Ok) (hk1 : D.k = 1) {d y : Nat} (hy : PK D.p d y) {pl ql : List Nat} (hx : ∀ a ∈ pl, a < D.p ^ D.k) (hm : Mon D.p d y ql) (n : Nat) (hn : n + ql.length = pl.length + 1) :
    ∀ t, t ≤ n → evl D.p d y 1 (divF D ql 1 n pl t) = evl D.p d y 1 pl ∧ ∀ j, n - t + (ql.length - 1) ≤ j → (divF D ql 1 n pl t)[j]?.getD 0 = 0 := by
  have hpk := hD.pre.pk
  have hql := hm.len
  intro t
  induction t with
  | zero =>
    intro _
    refine ⟨rfl, fun j hj => ?_⟩
    simp only [divF]
    rw [List.getElem?_eq_none (by omega)]
    rfl
  | succ t ih =>
    intro ht
    obtain ⟨h1, h2⟩ := ih (by omega)
    have hR := divF_lt hpk ql 1 n t hx
    have hRl := divF_len D ql 1 n pl t
    simp only [divF]
    generalize divF D ql 1 n pl t = R at *
    have hc : pscl D.p D.k (D.p - 1) (pmul D.p D.k D.m (R[n - 1 - t + (ql.length - 1)]?.getD 0) D.k 1) < D.p ^ D.k := pscl_lt hpk _ _
    refine ⟨by rw [addm_evl hD hk1 hy _ ql _ hR hm hc (by omega), h1], fun j hj => ?_⟩
    by_cases e : j = n - 1 - t + (ql.length - 1)
    · subst e
      rw [addm_top R _ ql _ (by omega) (by omega), hm.top]
      have hr : R[n - 1 - t + (ql.length - 1)]?.getD 0 < D.p ^ D.k := getD_lt (Nat.pow_pos hpk.p0) hR _
      rw [pmul_by_one hpk _ hr, pmul_one hpk _ (Nat.le_refl _) _ (pscl_lt hpk _ _)]
      exact padd_neg hpk _
    · unfold addm
      rw [addmF_old D R _ ql _ _ j (by omega)]
      exact h2 j (by omega)
theorem evl_cut {p k m : Nat} (h : PK p k m) (a : Nat) (l : List Nat) : ∀ (r n : Nat), n + r = l.length → (∀ i, n ≤ i → l[i]?.getD 0 = 0) → evl p k m a (l.take n) = evl p k m a l := by
  intro r
  induction r with
  | zero => intro n hn _; rw [List.take_of_length_le (by omega)]
  | succ r ih =>
    intro n hn hz
    rw [← ih (n + 1) (by omega) (fun i hi => hz i (by omega)), take_snoc h l n (by omega), hz n (Nat.le_refl _), evl_trim h]
end FFld
end Go.Proofs.Ytfhhnfpapgfnmaa

set_option linter.unusedVariables false
set_option linter.unusedSectionVars false
set_option linter.unusedSimpArgs false
namespace Go.Proofs.Ytfhhnfpapgfnmaa
namespace FFld
theorem Digs.len_ge {p n k : Nat} {l : List Nat} (h : Digs p n l) (hp : 2 ≤ p) (hn : p ^ k ≤ n) : k + 1 ≤ l.length := by
  have h1 := num_lt (p := p) (by omega) l h.lt
  rw [h.val] at h1
  rcases Nat.lt_or_ge k l.length with h2 | h2
  · exact h2
  · have := Nat.pow_le_pow_right (n := p) (by omega) h2
    omega
/-- The rest of a division over a prime field is empty just where the reference's is 0. -/
theorem rest_nil {D : FD} (hD : D.Ok) (hk1 : D.k = 1) {d y c k : Nat} (hd : 1 ≤ d) (hdk : d ≤ k) {pl ql rs : List Nat} (hp : Digs D.p c pl) (hq : Digs D.p y ql) (h1 : D.p ^ d ≤ y) (h2 : y < 2 * D.p ^ d) (hc0 : D.p ^ k ≤ c) (hc : c < D.p ^ (k + 1)) {n : Nat} (hn : n ≤ pl.length)
    (hrs : rs = (divF D ql 1 (pl.length + 1 - ql.length) pl (pl.length + 1 - ql.length)).take n)
    (hz : ∀ i, n ≤ i → (divF D ql 1 (pl.length + 1 - ql.length) pl (pl.length + 1 - ql.length))[i]?.getD 0 = 0)
    (ht : n = 0 ∨ (divF D ql 1 (pl.length + 1 - ql.length) pl (pl.length + 1 - ql.length))[n - 1]?.getD 0 ≠ 0) :
    rs.length = 0 ↔ pmul D.p d y 1 (k + 1) c = 0 := by
  have hpk := hD.pre.pk
  have hy : PK D.p d y := ⟨hpk.p2, hd⟩
  have hm := hq.mon hy h1 h2
  have hql := hm.len
  have hpl := hp.len_ge hpk.p2 hc0
  have hx : ∀ a ∈ pl, a < D.p ^ D.k := fun a ha => by rw [hk1, Nat.pow_one]; exact hp.lt a ha
  obtain ⟨e1, e2⟩ := divF_ok hD hk1 hy hx hm (pl.length + 1 - ql.length) (by omega) (pl.length + 1 - ql.length) (Nat.le_refl _)
  have hl := divF_len D ql 1 (pl.length + 1 - ql.length) pl (pl.length + 1 - ql.length)
  have hlt := divF_lt hpk ql 1 (pl.length + 1 - ql.length) (pl.length + 1 - ql.length) hx
  generalize divF D ql 1 (pl.length + 1 - ql.length) pl (pl.length + 1 - ql.length) = R at *
  have hnd : n ≤ d := by
    rcases ht with h | h
    · omega
    · rcases Nat.lt_or_ge d n with h3 | h3
      · exact absurd (e2 (n - 1) (by omega)) h
      · exact h3
  have e3 := evl_cut hy 1 R (R.length - n) n (by omega) hz
  rw [← hrs, e1, ← evl_pmul hy 1 pl (k + 1) hp.lt (hp.len hpk.p2 hc), hp.val] at e3
  have hrl : rs.length = n := by rw [hrs, List.length_take, hl]; omega
  have hrlt : ∀ a ∈ rs, a < D.p := fun a ha => by
    have := hlt a (by rw [hrs] at ha; exact List.mem_of_mem_take ha)
    rw [hk1, Nat.pow_one] at this
    exact this
  rw [evl_one hy rs hrlt (by omega)] at e3
  rw [← e3]
  constructor
  · intro h
    rw [List.eq_nil_of_length_eq_zero h]
    rfl
  · intro h
    rcases ht with h3 | h3
    · omega
    · by_cases hn0 : n = 0
      · omega
      · exfalso
        have hne : rs ≠ [] := fun e => by rw [e] at hrl; simp at hrl; omega
        have hlast : rs.getLast? ≠ some 0 := by
          rw [List.getLast?_eq_getElem?, hrl, hrs, List.getElem?_take, if_pos (by omega)]
          intro e
          rw [e] at h3
          exact h3 rfl
        have h4 := num_ge (p := D.p) hlast hne
        have h5 : 0 < D.p ^ (rs.length - 1) := Nat.pow_pos hpk.p0
        omega
end FFld
end Go.Proofs.Ytfhhnfpapgfnmaa
