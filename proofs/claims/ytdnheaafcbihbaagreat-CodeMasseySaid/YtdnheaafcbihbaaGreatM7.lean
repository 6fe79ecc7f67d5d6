/-
  Texts of the proof, merged by program: Mb De Mc Opl TWat TCut TSum TCmp TMul TAddMul TSum2 TProd.
-/
import Derived.Test.YtdnheaafcbihbaaGreatM3
import Derived.Test.YtdnheaafcbihbaaGreatM6
import Derived.Deep.OwnRows
import Derived.Test.YtdnheaafcbihbaaGreatM1
import Derived.Deep.Matrix
import Derived.Carry
import Derived.Test.YtdnheaafcbihbaaGreatProg
import Derived.Laws.Externs
import Derived.Deep.QuietTactic
import Derived.BigQuiet
import Derived.Test.YtdnheaafcbihbaaGreatShelf
import Derived.Deep.DeepMust
set_option linter.unusedVariables false
set_option linter.unusedSimpArgs false
namespace Go.Proofs.YtdnheaafcbihbaaGreat
open Go Go.RowKit
open FFld (ints)
/-- A row of a matrix: the block that holds it (none where it has no elements), its capacity, its elements. -/
structure RH where
  blk : Option Nat
  cap : Nat
  xs : List Nat
def RH.nil : RH := ⟨none, 0, []⟩
def RH.val (r : RH) : Value := match r.blk with
  | none => .slice none 0 0
  | some g => .slice (some ⟨g, 0, none⟩) r.xs.length r.cap
def RH.ok (w : World) (r : RH) : Prop := match r.blk with
  | none => r.xs = []
  | some g => Wv w g r.xs ∧ r.xs.length ≤ r.cap ∧ r.cap ≤ maxLen
def rowH (L : List RH) (i : Nat) : RH := L[i]?.getD RH.nil
/-- The same row with other elements. -/
def RH.put (r : RH) (l : List Nat) : RH := ⟨r.blk, r.cap, l⟩
/-- Rows lie in blocks of their own. -/
def dis (L : List RH) : Prop := ∀ (i j g : Nat), L[i]?.bind RH.blk = some g → L[j]?.bind RH.blk = some g → i = j
/-- Block G has the rows L. -/
structure Mx (w : World) (G : Nat) (L : List RH) : Prop where
  cells : w.heap[G]? = some (.cells (L.map RH.val).toArray 22 (0, 0))
  ok : ∀ r ∈ L, r.ok w
/-- A matrix in block G1 and its record in block G2, both behind B and below hi. -/
structure Pr (B hi : Nat) (w : World) (G1 G2 : Nat) (L1 L2 : List RH) : Prop where
  b1 : B ≤ G1
  b2 : G1 < G2
  b3 : G2 < hi
  r1 : ∀ r ∈ L1, ∀ g, r.blk = some g → G1 < g ∧ g < G2
  r2 : ∀ r ∈ L2, ∀ g, r.blk = some g → G2 < g ∧ g < hi
  d1 : dis L1
  d2 : dis L2
  m1 : Mx w G1 L1
  m2 : Mx w G2 L2
end Go.Proofs.YtdnheaafcbihbaaGreat

set_option linter.unusedVariables false
set_option linter.unusedSimpArgs false
namespace Go.Proofs.YtdnheaafcbihbaaGreat
open Go Go.RowKit
open FFld (ints)
theorem Sl.qc {w W : World} {ao : Option Addr} {k cap g : Nat} {l : List Nat} (h : Sl .i64 w (.slice ao k cap) (ints l)) (hb : Below w.heap.size w W) (hg : w.heap.size ≤ g) : Qc g ao l W := by
  obtain ⟨ao', cap', e, hc, hm, hx⟩ := h
  simp only [Value.slice.injEq] at e
  obtain ⟨rfl, e2, rfl⟩ := e
  intro i hi
  obtain ⟨b, o, e, hl, hcell⟩ := hx i (by rw [FFld.ints_len]; exact hi)
  rw [FFld.ints_get] at hcell
  exact ⟨b, o, e, by omega, Nat.lt_of_lt_of_le hl hb.size, (hb.cell (p := ⟨b, o + i, none⟩) hl).trans hcell⟩
theorem Wv.setOther {w : World} {g g' i : Nat} {l : List Nat} (h : Wv w g l) (hne : g ≠ g') (v : Value) : Wv (w.setCell ⟨g', i, none⟩ v) g l := by
  obtain ⟨cur, h1, h2, h3⟩ := h
  exact ⟨cur, (heap_setCell_other w ⟨g', i, none⟩ g v (by simpa using hne)).trans h1, h2, h3⟩
/-- What divide returns: the rest (and a quotient). -/
def DeRet (D : FFld.FD) (ql : List Nat) (inv : Nat) (pl : List Nat) (w : World) (e : Ending) (w' : World) : Prop := Below w.heap.size w w' ∧ ∃ (vq vr : Value) (qs rs : List Nat), e = .returned (.tuple #[vq, vr]) ∧ Sl .i64 w' vq (ints qs) ∧ Sl .i64 w' vr (ints rs) ∧
  if pl.length < ql.length then qs = [] ∧ rs = pl
  else qs.length = pl.length + 1 - ql.length ∧ (∀ t, t < qs.length → qs[qs.length - 1 - t]?.getD 0 = FFld.divQ D ql inv qs.length pl t) ∧
    ∃ n, n ≤ pl.length ∧ rs = (FFld.divF D ql inv qs.length pl qs.length).take n ∧ (∀ i, n ≤ i → (FFld.divF D ql inv qs.length pl qs.length)[i]?.getD 0 = 0) ∧ (n = 0 ∨ (FFld.divF D ql inv qs.length pl qs.length)[n - 1]?.getD 0 ≠ 0)
set_option maxRecDepth 20000 in
set_option maxHeartbeats 4000000 in
theorem divide_any {D : FFld.FD} {b : Nat} (hD : D.Ok) (vp vq : Value) (pl ql : List Nat) (w : World) (hf : FldB D w b) (hp : Sl .i64 w vp (ints pl)) (hq : Sl .i64 w vq (ints ql)) (hpq : ∀ a ∈ pl, a < D.p ^ D.k) (hqq : ∀ a ∈ ql, a < D.p ^ D.k)
    (hq1 : 1 ≤ ql.length) (hql : ql[ql.length - 1]?.getD 0 ≠ 0) (hpl : pl.length ≤ 100000) (hqll : ql.length ≤ 100000) :
    Calls Tryz.prog 216 #[.pointer (some ⟨b, 0, none⟩), vp, vq] w (DeRet D ql (FFld.ppow hD.pre.pk (ql[ql.length - 1]?.getD 0) (D.q - 2)) pl w) := by
  obtain ⟨ap, cp, rfl, hcp, hmp⟩ := hp.form
  obtain ⟨aq, cq, rfl, hcq, hmq⟩ := hq.form
  rw [FFld.ints_len] at hcp hcq
  have hC := Kept.mk (clone_any hp (by rw [FFld.ints_len]; omega))
  have HPS := Kept.mk hp
  have HQS := Kept.mk hq
  have HF := Kept.mk hf
  have HPQ := Kept.mk hpq
  have HQQ := Kept.mk hqq
  have HQL := Kept.mk hql
  clear hp hq hf hpq hqq hql
  rw [FFld.ints_len, FFld.ints_len] at *
  go_enter Tryz.func216, Tryz.ntmps216
  go_wp2_with fail
  refine hC.out.mono ?_
  rintro e w1 ⟨hb1, v1, rfl, hm1⟩
  obtain ⟨a1, c1, rfl, hc1, hx1⟩ := hm1.sl.form
  rw [FFld.ints_len] at hc1 hm1 ⊢
  have HB1 := Kept.mk hb1
  have HM1 := Kept.mk hm1
  clear hb1 hm1 hC
  by_cases hlt : pl.length < ql.length
  · go_wp2
    go_ret2
    refine ⟨HB1.out, _, _, [], pl, rfl, Sl.nil _ _, HM1.out.sl, ?_⟩
    rw [if_pos hlt]
    exact ⟨rfl, rfl⟩
  · obtain ⟨g, cap', ev, hgB, hgl, _, _, _, _, _⟩ := HM1.out.at (i := 0) (by rw [FFld.ints_len]; omega)
    rw [FFld.ints_len] at ev
    simp only [Value.slice.injEq, true_and] at ev
    obtain ⟨rfl, rfl⟩ := ev
    have HW1 := Kept.mk HM1.out.wv
    obtain ⟨n, hn⟩ : ∃ n, pl.length + 1 - ql.length = n := ⟨_, rfl⟩
    obtain ⟨top, htop⟩ : ∃ top, ql.length - 1 = top := ⟨_, rfl⟩
    have hn1 : 1 ≤ n := by omega
    have etop : (ql.length : Int) - 1 = top := by omega
    have en : (pl.length : Int) - top = n := by omega
    obtain ⟨bq, oq, rfl, _, _, hcell⟩ := (HQS.out.qc HB1.out hgB) top (by omega)
    have hpos : 0 < D.p ^ D.k := Nat.pow_pos hD.pre.pk.p0
    have htq := FFld.getD_lt hpos HQQ.out top
    have htn := HQL.out
    rw [htop] at htn
    obtain ⟨tc, htc⟩ : ∃ tc, ql[top]?.getD 0 = tc := ⟨_, rfl⟩
    rw [htc] at hcell htq htn
    obtain ⟨inv, hinv⟩ : ∃ inv, FFld.ppow hD.pre.pk tc (D.q - 2) = inv := ⟨_, rfl⟩
    have hinvl : inv < D.p ^ D.k := by rw [← hinv]; exact FFld.ppow_lt _ _ _
    have hI := Kept.mk (inverse_any hD tc w1 (HF.out.below HB1.out) htq htn)
    rw [hinv] at hI
    have HINV : Kept (FFld.ppow hD.pre.pk (ql[ql.length - 1]?.getD 0) (D.q - 2) = inv) := ⟨by rw [htop, htc, hinv]⟩
    have HTOP := Kept.mk htop
    have HN := Kept.mk hn
    have hlen1 : top + 1 = ql.length := by omega
    have hlen2 : n + top = pl.length := by omega
    have hbl' : b < w.heap.size := HF.out.lt
    clear hn htop htc hinv htq htn HM1
    go_wp2_with fail
    refine hI.out.mono ?_
    rintro e w2 ⟨hb2, rfl⟩
    have HB2 := Kept.mk (bstep HB1.out hb2)
    have HW2 := Kept.mk (HW1.out.below hb2)
    have hg2 : g < w2.heap.size := HW2.out.lt
    clear hb2 hcell hI HW1
    go_wp2_with (at_make; refine wpList_make_zeros _ rfl _ _ 22 rfl 3 .i64 Tryz.underlying22 info_i64 _ _ n rfl rfl (by omega) (by omega) (by omega) ?_)
    intro w3 hrow hbel
    rw [FFld.ints_rep] at hrow
    have HQ3 := Kept.mk hrow.wv
    have HW3 := Kept.mk (HW2.out.below hbel)
    have HB3 := Kept.mk (bstep HB2.out hbel)
    have hsz2 := HB2.out.size
    clear hrow hbel HW2
    obtain ⟨_, T, x, fs, fp, fw, ms, ml, hbb, ho, _, _⟩ := HF.out.open
    obtain ⟨c0, _⟩ := six_cells hbb
    have hmp := ho.mp
    have hcp := ho.cp
    have HP := Kept.mk ho.product
    clear ho hbb
    go_wp2
    go_loopw [10] (fun iv wr => ∃ (t : Nat) (z : Int) (qs : List Nat), t ≤ n ∧ iv = .int .i64 z ∧ Hid (z + 1 + t = n) ∧ qs.length = n ∧ Kept (Wv wr g (FFld.divF D ql inv n pl t)) ∧ Kept (Wv wr w2.heap.size qs) ∧ Kept (∀ t', t' < t → qs[n - 1 - t']?.getD 0 = FFld.divQ D ql inv n pl t') ∧ Kept (Below w.heap.size w wr)) (fun iv _ => (intOf iv + 1).toNat)
    case atStart => exact ⟨0, (n : Int) - 1, List.replicate n 0, Nat.zero_le _, rfl, by show (n : Int) - 1 + 1 + ((0 : Nat) : Int) = n; omega, by simp, HW3, HQ3, ⟨fun t' h => by omega⟩, HB3⟩
    case round =>
      obtain ⟨t, z, qs, ht, rfl, hz, hqs, hwv, hqv, hqa, hbl⟩ := hrel
      by_cases htn : t < n
      · obtain ⟨i, hi⟩ : ∃ i, i + 1 + t = n := ⟨n - 1 - t, by omega⟩
        obtain rfl : z = (i : Int) := by have := hz.out; omega
        have eit : n - 1 - t = i := by omega
        obtain ⟨R, hR⟩ : ∃ R, FFld.divF D ql inv n pl t = R := ⟨_, rfl⟩
        have hRl : R.length = pl.length := by rw [← hR]; exact FFld.divF_len _ _ _ _ _ _
        have HRQ := Kept.mk (FFld.divF_lt hD.pre.pk ql inv n t HPQ.out)
        rw [hR] at hwv HRQ
        obtain ⟨r, hr⟩ : ∃ r, R[i + top]?.getD 0 = r := ⟨_, rfl⟩
        obtain ⟨v, hv⟩ : ∃ v, FFld.pmul D.p D.k D.m r D.k inv = v := ⟨_, rfl⟩
        have HV : Kept (FFld.divQ D ql inv n pl t = v) := ⟨by unfold FFld.divQ; rw [hR, eit, HTOP.out, hr, hv]⟩
        have HNX : Kept (FFld.divF D ql inv n pl (t + 1) = FFld.addm D R i ql (FFld.pscl D.p D.k (D.p - 1) v)) := ⟨by simp only [FFld.divF]; rw [hR, eit, HTOP.out, hr, hv]⟩
        have hrq : r < D.p ^ D.k := by rw [← hr]; exact FFld.getD_lt hpos HRQ.out _
        have hvq : v < D.p ^ D.k := by rw [← hv]; exact FFld.pmul_lt hD.pre.pk _ _ _
        have hP := Kept.mk (fun W (hW : Below w.heap.size w W) => HP.out W hW r inv hrq hinvl)
        rw [hv] at hP
        have hNeg := Kept.mk (fun W (hW : Below w.heap.size w W) => negative_any v W (HF.out.below hW) hvq)
        have hAm := Kept.mk (fun W (hW : Below w.heap.size w W) (hwR : Wv W g R) (n' cc : Nat) (hn' : ql.length ≤ n') => addMultiple_any (s := i) (n := n') (cc := cc) (cap := cq) w W HF.out hW hgB R hwR HRQ.out ql (HQS.out.qc hW hgB) HQQ.out (by omega) hn' (FFld.pscl D.p D.k (D.p - 1) v) (FFld.pscl_lt hD.pre.pk _ _) (by omega))
        obtain ⟨nv, hnv⟩ : ∃ nv, FFld.pscl D.p D.k (D.p - 1) v = nv := ⟨_, rfl⟩
        rw [hnv] at hNeg hAm HNX
        have f1 : wr.cell? ⟨b, 0, none⟩ = some (.iface T x) := (hbl.out.cell (p := ⟨b, 0, none⟩) hbl').trans c0
        have r1 := hwv.out.cell (i := i + top) (by omega)
        rw [hr] at r1
        have hgl := hwv.out.lt
        have hgql := hqv.out.lt
        have hwrs := hbl.out.size
        have hij : IntKind.i64.wrap ((i : Int) + top) = (i : Int) + top := wi (by omega) (by omega)
        have hi1 : 0 ≤ (i : Int) + top := by omega
        have hi2 : (i : Int) + top < (pl.length : Int) := by omega
        have hi3 : ((i : Int) + top).toNat = i + top := by omega
        have hin : i < n := by omega
        clear hR hr hv hnv hRl hrq hvq hz
        go_wp2
        go_region_held3 (fun w' => w'.cell? ⟨b, 0, none⟩ = some (.iface T x) ∧ w'.cell? ⟨g, i + top, none⟩ = some (.int .i64 r))
          (first | exact ⟨f1, r1⟩ | exact ⟨k0, k1⟩ | exact ⟨l0, l1⟩ | go_keep)
          ((first
            | ((with_reducible refine (hP.out _ ?_).mono ?_); (exact (by first | exact hbl.out | exact hbl.out.drew)); rintro e w4 ⟨hb4, rfl⟩; have HB4 := Kept.mk (bstep (show Below w.heap.size w _ from (by first | exact hbl.out | exact hbl.out.drew)) hb4); have HR4 : Kept (Below wr.heap.size wr w4) := ⟨(Below.refl _ _).drew.trans hb4⟩; have k0 := (HR4.out.cell (p := ⟨b, 0, none⟩) (by simp only []; omega)).trans f1; have k1 := (HR4.out.cell (p := ⟨g, i + top, none⟩) (by simp only []; omega)).trans r1; have HWQ4 := Kept.mk (hqv.out.below HR4.out); have q4 := HWQ4.out.cell (i := i) (by omega); have z4 := HWQ4.out.free i; have l0 := (World.cell?_of_block (a := ⟨b, 0, none⟩) (heap_setCell_other w4 ⟨w2.heap.size, i, none⟩ b (.int .i64 v) (by simp; omega))).trans k0; have l1 := (World.cell?_of_block (a := ⟨g, i + top, none⟩) (heap_setCell_other w4 ⟨w2.heap.size, i, none⟩ g (.int .i64 v) (by simp; omega))).trans k1; clear hb4)))
        have hq5 := HWQ4.out.set (i := i) v
        have hw5 := (hwv.out.below HR4.out).setOther (i := i) (g' := w2.heap.size) (by omega) (.int .i64 v)
        have hb5 : Below w.heap.size w (w4.setCell ⟨w2.heap.size, i, none⟩ (.int .i64 v)) := HB4.out.setCell (p := ⟨w2.heap.size, i, none⟩) (by simp only []; omega) _
        have hql5 : (qs.set i v).length = n := by rw [List.length_set]; exact hqs
        have qc5 := hq5.cell (i := i) (by omega)
        rw [List.getElem?_set_self (by omega), Option.getD_some] at qc5
        have hs4 := HR4.out.size
        obtain ⟨W5, hW5⟩ : ∃ W, w4.setCell ⟨w2.heap.size, i, none⟩ (.int .i64 v) = W := ⟨_, rfl⟩
        rw [hW5] at hq5 hw5 hb5 qc5
        have HQ5 := Kept.mk hq5
        have HW5 := Kept.mk hw5
        have HB5 := Kept.mk hb5
        clear k0 k1 l0 l1 q4 z4 f1 r1 hij hi1 hi2 hi3 hq5 hw5 hb5 hP hgl hgql
        rw [hW5]
        clear hW5 HWQ4 HB4 HR4 hs4
        have hs1 : (i : Int) ≤ (pl.length : Int) := by omega
        have hs2 : i ≤ pl.length := by omega
        have hs3 : (0 : Int) ≤ (i : Int) := by omega
        have hs5 : (pl.length : Int) ≤ (c1 : Int) := by omega
        have hs6 : ((i : Int) < 0) = False := by simp
        go_wp2
        go_region_held3 (fun w' => w'.cell? ⟨w2.heap.size, i, none⟩ = some (.int .i64 v))
          (first | exact qc5 | exact k5 | exact k6 | go_keep)
          ((first
            | (go_at_call 154; (with_reducible refine (hNeg.out _ ?_).mono ?_); (exact (by first | exact HB5.out | exact HB5.out.drew)); rintro e w6 ⟨hb6, rfl⟩; have HB6 := Kept.mk (bstep (show Below w.heap.size w _ from (by first | exact HB5.out | exact HB5.out.drew)) hb6); have HR6 : Kept (Below W5.heap.size W5 w6) := ⟨(Below.refl _ _).drew.trans hb6⟩; have k5 := (HR6.out.cell (p := ⟨w2.heap.size, i, none⟩) (by have := HQ5.out.lt; simp only []; omega)).trans qc5; clear hb6)
            | (go_at_call 151; (with_reducible refine (hAm.out _ HB6.out (HW5.out.below HR6.out) _ _ (by omega)).mono ?_); rintro e w7 ⟨rfl, hg7, hw7⟩; have HW7 := Kept.mk hw7; have HG7 := Kept.mk hg7; have k6 := hg7.cell k5 (by simp; omega); clear hg7 hw7)))
        go_wp2
        go_roundw
        case rel => exact ⟨t + 1, (i : Int) - 1, qs.set i v, by omega, by go_num, by show (i : Int) - 1 + 1 + ((t + 1 : Nat) : Int) = n; omega, hql5, ⟨by rw [HNX.out]; exact HW7.out⟩, ⟨(HQ5.out.below HR6.out).other HG7.out (by omega)⟩, ⟨fun t' ht' => by
          by_cases e : t' = t
          · subst e
            rw [eit, List.getElem?_set_self (by omega), Option.getD_some, HV.out]
          · rw [List.getElem?_set_ne (by omega)]
            exact hqa.out t' (by omega)⟩, ⟨belowGrow HG7.out HB6.out hgB⟩⟩
        case measure => simp [intOf] <;> omega
      · obtain rfl : t = n := by omega
        obtain rfl : z = -1 := by have := hz.out; omega
        have hfl := FFld.divF_len D ql inv t pl t
        have HSR := Kept.mk (hwv.out.sl (n := pl.length) (c := c1) (by omega) hc1 hx1)
        have HSQ := Kept.mk (hqv.out.sl (n := t) (c := t) (by omega) (Nat.le_refl _) (by unfold maxLen; omega))
        have HT := Kept.mk (trimmed_any (FFld.divF D ql inv t pl t) (some ⟨g, 0, none⟩) c1 wr (by rw [hfl]; exact HSR.out))
        rw [hfl] at HT
        have HFL := Kept.mk hfl
        clear hz hfl
        go_wp2_with fail
        refine HT.out.mono ?_
        rintro e w8 ⟨rfl, m, hm, rfl, hm1, hm2⟩
        have HM1 := Kept.mk hm1
        have HM2 := Kept.mk hm2
        have HWT := Kept.mk ((hwv.out.take m).sl (n := m) (c := m) (by rw [List.length_take, HFL.out]; omega) (Nat.le_refl _) (by unfold maxLen at *; omega))
        clear hm1 hm2
        go_wp2
        go_ret2
        rw [HINV.out]
        refine ⟨hbl.out, _, _, qs, _, rfl, HSQ.out, HWT.out, ?_⟩
        rw [if_neg hlt, hqs]
        exact ⟨HN.out.symm, hqa.out, m, hm, rfl, HM1.out, HM2.out⟩
end Go.Proofs.YtdnheaafcbihbaaGreat

set_option linter.unusedVariables false
set_option linter.unusedSimpArgs false
namespace Go.Proofs.YtdnheaafcbihbaaGreat
open Go Go.RowKit Go.Deep
open FFld (ints)
theorem info_rows : (Tryz.prog.info? 22).map (fun i => (i.zero, i.size, i.bytes)) = some (some (.slice none 0 0), 1, 24) := by kernel_rfl
/-- A matrix as a value, and its box. -/
abbrev mxv (b G n : Nat) : Value := .agg #[.pointer (some ⟨b, 0, none⟩), .slice (some ⟨G, 0, none⟩) n n]
abbrev mxbox (b G n : Nat) : Obj := .cells #[.pointer (some ⟨b, 0, none⟩), .slice (some ⟨G, 0, none⟩) n n] 194
theorem two_end {w W : World} {g : Nat} {a b : Value} {T : TypeId} (h : W.heap[g]? = some (.cells #[a, b] T (0, 0))) (hb : Below w.heap.size w W) (hg : w.heap.size ≤ g) (a' b' : Value) :
    Below w.heap.size w ((W.setCell ⟨g, 0, none⟩ a').setCell ⟨g, 1, none⟩ b') ∧ ((W.setCell ⟨g, 0, none⟩ a').setCell ⟨g, 1, none⟩ b').cell? ⟨g, 0, none⟩ = some a' ∧ ((W.setCell ⟨g, 0, none⟩ a').setCell ⟨g, 1, none⟩ b').cell? ⟨g, 1, none⟩ = some b' := by
  obtain ⟨c0, c1, _⟩ := two_cells (two_set h a' b')
  exact ⟨(hb.setCell (p := ⟨g, 0, none⟩) hg _).setCell (p := ⟨g, 1, none⟩) hg _, c0, c1⟩
/-- Rows that the slice at ao holds. -/
def Sls (w : World) (ao : Option Addr) (rows : List (List Int)) : Prop := ∀ i, i < rows.length → ∃ (b o : Nat) (rv : Value), ao = some ⟨b, o, none⟩ ∧ b < w.heap.size ∧ w.cell? ⟨b, o + i, none⟩ = some rv ∧ Sl .i64 w rv (rows[i]?.getD [])
theorem Sls.below {w w' : World} {ao : Option Addr} {rows : List (List Int)} (h : Sls w ao rows) (hb : Below w.heap.size w w') : Sls w' ao rows := fun i hi => by
  obtain ⟨b, o, rv, e, hl, hc, hs⟩ := h i hi
  exact ⟨b, o, rv, e, Nat.lt_of_lt_of_le hl hb.size, (hb.cell (p := ⟨b, o + i, none⟩) hl).trans hc, hs.below hb⟩
/-- The rows that have been copied. -/
structure CpAt (w : World) (rows : List (List Nat)) (i : Nat) (L : List RH) (W : World) : Prop where
  len : L.length = rows.length
  mx : Mx W w.heap.size L
  bel : Below w.heap.size w W
  dis : dis L
  low : ∀ r ∈ L, ∀ g, r.blk = some g → w.heap.size < g
  val : ∀ j, (rowH L j).xs = if j < i then rows[j]?.getD [] else []
/-- A matrix of one's own with these rows. -/
structure OwnM (B : Nat) (w : World) (G : Nat) (rows : List (List Nat)) (L : List RH) : Prop where
  lo : B ≤ G
  mx : Mx w G L
  dis : dis L
  low : ∀ r ∈ L, ∀ g, r.blk = some g → G < g
  val : L.map RH.xs = rows
/-- What copied returns. -/
def CpRet (rows : List (List Nat)) (w : World) (e : Ending) (w' : World) : Prop := Below w.heap.size w w' ∧ ∃ G L, e = .returned (.slice (some ⟨G, 0, none⟩) rows.length rows.length) ∧ OwnM w.heap.size w' G rows L
end Go.Proofs.YtdnheaafcbihbaaGreat

set_option linter.unusedVariables false
/-! Slices of integers, and slices of these, that come in; and arguments that read behind the call as before. -/
namespace Go.Proofs.YtdnheaafcbihbaaGreat
open Go Go.ChangeShapes Go.WideShapes Go.RowKit
def I64s (xs : List Int) : Prop := ∀ x ∈ xs, -9223372036854775808 ≤ x ∧ x ≤ 9223372036854775807
theorem trodAll_stays {H : Type} {enc : TypeId × Value → H} {P : Program} (hl : laidOutB P = true) {W W' : World} (hb : Below W.heap.size W W') {sp : Nat → Bool} :
    ∀ {ts : List TypeId} {vs : List Value} {ds : List (DataW H)} {ps : List MemPlace}, (∀ t ∈ ts, P.readableRec t = true ∧ t < P.types.size) → DataW.TrodAll enc P W 0 (fun _ => true) true ts vs ds ps → (∀ p ∈ ps, p.block < W.heap.size) → (∀ p ∈ ps, sp p.block = true) → DataW.TrodAll enc P W' 0 sp true ts vs ds ps
  | [], [], [], _, _, h, _, _ => h
  | _ :: _, _ :: _, _ :: _, _, hT, ⟨p, q, h1, h2, e⟩, hlt, hs => ⟨p, q, WideElems.Trod_stays hl (hT _ List.mem_cons_self).1 (hT _ List.mem_cons_self).2 h1 (fun x hx => hb.same (hlt x (by rw [e]; exact List.mem_append_left _ hx))) (fun x hx => hs x (by rw [e]; exact List.mem_append_left _ hx)), trodAll_stays hl hb (fun t ht => hT t (List.mem_cons_of_mem _ ht)) h2 (fun x hx => hlt x (by rw [e]; exact List.mem_append_right _ hx)) (fun x hx => hs x (by rw [e]; exact List.mem_append_right _ hx)), e⟩
section
variable {H : Type} {enc : TypeId × Value → H} {P : Program} {w : World} {base : Nat} {held : Bool}
theorem cell_plain {a : Addr} {i : Nat} {v v0 : Value} (h0 : w.cell? (a.add 0) = some v0) (h : w.cell? (a.add i) = some v) : ∃ b o, a = ⟨b, o, none⟩ ∧ b < w.heap.size ∧ w.cell? ⟨b, o + i, none⟩ = some v := by
  obtain ⟨b, o, spot⟩ := a
  have hs : spot = none := by simpa [Addr.add] using World.cell?_spot h0
  subst hs
  have e : (⟨b, o, none⟩ : Addr).add i = ⟨b, o + i, none⟩ := by unfold Addr.add; split <;> simp_all
  rw [e] at h
  exact ⟨b, o, rfl, World.block_lt_of_cell? w _ h, h⟩
theorem take_get {zs : List Int} {n i : Nat} (hi : i < n) : (zs.take n)[i]?.getD 0 = zs.getD i 0 := by
  rw [List.getElem?_take, if_pos hi, List.getD_eq_getElem?_getD]
theorem open_slv {t e : TypeId} {fuel : Nat} {ao : Option Addr} {len cap : Nat} {x : DataW H × List MemPlace} (ht : P.underlying t = some (.slice e)) (he : P.underlying e = some (.int .i64)) (hc : P.cellsOf e = 1)
    (h : DataW.trod enc P w base (fun _ => true) held fuel t [.slice ao len cap] = some x) : ∃ xs, xs.length = len ∧ Sl .i64 w (.slice ao len cap) xs ∧ I64s xs := by
  rcases open_ints ht he hc h with ⟨hcs, hx⟩ | ⟨a, len', cap', zs, hcs, _, hl, hm, hz, hx, hcell, hwz⟩
  · simp at hcs
    obtain ⟨rfl, rfl, rfl⟩ := hcs
    exact ⟨[], rfl, Sl.nil _ _, by simp [I64s]⟩
  · simp at hcs
    obtain ⟨rfl, rfl, rfl⟩ := hcs
    simp only [if_true] at hz
    have hlen : (zs.take len).length = len := by rw [List.length_take, hz]; omega
    refine ⟨zs.take len, hlen, ⟨some a, cap, by rw [hlen], by rw [hlen]; exact hl, hm, fun i hi => ?_⟩, fun y hy => i64_bounds (hwz y (List.mem_of_mem_take hy))⟩
    rw [hlen] at hi
    obtain ⟨b, o, rfl, hb, hcl⟩ := cell_plain (hcell 0 (by omega)) (hcell i (by omega))
    exact ⟨b, o, rfl, hb, by rw [hcl, take_get hi]⟩
theorem open_sl {r : Reach} {b0 : Nat} {t e : TypeId} {v : Value} {d : DataW H} {ps : List MemPlace} (ht : P.underlying t = some (.slice e)) (he : P.underlying e = some (.int .i64)) (hc : P.cellsOf e = 1)
    (hval : Value.okWide P w r b0 t v) (hd : DataW.Trod enc P w base (fun _ => true) held t v d ps) : ∃ xs, Sl .i64 w v xs ∧ I64s xs := by
  obtain ⟨a0, len, cap, rfl⟩ := okWide_slice ht hval
  obtain ⟨fuel, hf⟩ := hd
  obtain ⟨xs, _, h1, h2⟩ := open_slv ht he hc (by simpa [Value.cells] using hf)
  exact ⟨xs, h1, h2⟩
end
end Go.Proofs.YtdnheaafcbihbaaGreat

set_option linter.unusedVariables false
set_option linter.unusedSimpArgs false
namespace Go.Proofs.YtdnheaafcbihbaaGreat
open Go Go.RowKit
/-- The base of the words. -/
abbrev BW : Int := 18446744073709551616
theorem wfD {xs : List Int} (h : Dg.Wf BW xs) (i : Nat) : 0 ≤ xs[i]?.getD 0 ∧ xs[i]?.getD 0 < 18446744073709551616 := h.getD (by decide) i
theorem info_u64 : (Tryz.prog.info? 165).map (fun i => (i.zero, i.size, i.bytes)) = some (some (.int .u64 0), 1, 8) := by kernel_rfl

/-- math/bits.Add64 as the model runs it. -/
theorem add64 (x y c : Int) (hx : 0 ≤ x) (hx1 : x < 18446744073709551616) (hy : 0 ≤ y) (hy1 : y < 18446744073709551616) (hc0 : 0 ≤ c) (hc : c ≤ 1) :
    ∃ s k : Int, (∀ w : World, (callFunc 238 #[.int .u64 x, .int .u64 y, .int .u64 c]).run Tryz.prog w = .ok (.value (.tuple #[.int .u64 s, .int .u64 k])) w) ∧
      0 ≤ s ∧ s < 18446744073709551616 ∧ 0 ≤ k ∧ k ≤ 1 ∧ x + y + c = s + 18446744073709551616 * k := by
  refine ⟨(x + y + c) % 18446744073709551616, (x + y + c) / 18446744073709551616, fun w => ?_, by omega, by omega, by omega, by omega, by omega⟩
  rw [run_callFunc_extern Tryz.func238 (by kernel_rfl) (by kernel_rfl) (by kernel_rfl) (e := add64Entry) (by kernel_rfl), run_add64 x y c hx hy hc0 hc]
  rfl

/-- The model's entry for math/bits.Sub64. -/
def sub64Entry : Array Value → Sem Value := fun args => do
  let (x, y, b) ← Extern.MathBitsCarry.three "Sub64" args
  pure (Extern.MathBitsCarry.pair ((x + Extern.MathBitsCarry.m64 - y - b) % Extern.MathBitsCarry.m64) (if x < y + b then 1 else 0))
theorem run_sub64 {P : Program} (x y b : Nat) (hb : b ≤ 1) (w : World) :
    (sub64Entry #[.int .u64 x, .int .u64 y, .int .u64 b]).run P w =
      .ok (.tuple #[.int .u64 (((x + 18446744073709551616 - y - b) % 18446744073709551616 : Nat) : Int), .int .u64 ((if x < y + b then 1 else 0 : Nat) : Int)]) w := by
  have : b = 0 ∨ b = 1 := by omega
  rcases this with rfl | rfl <;> rfl
theorem sub64 (x y c : Int) (hx : 0 ≤ x) (hx1 : x < 18446744073709551616) (hy : 0 ≤ y) (hy1 : y < 18446744073709551616) (hc0 : 0 ≤ c) (hc : c ≤ 1) :
    ∃ s k : Int, (∀ w : World, (callFunc 240 #[.int .u64 x, .int .u64 y, .int .u64 c]).run Tryz.prog w = .ok (.value (.tuple #[.int .u64 s, .int .u64 k])) w) ∧
      0 ≤ s ∧ s < 18446744073709551616 ∧ 0 ≤ k ∧ k ≤ 1 ∧ x - y - c = s - 18446744073709551616 * k := by
  obtain ⟨x, rfl⟩ := Int.eq_ofNat_of_zero_le hx
  obtain ⟨y, rfl⟩ := Int.eq_ofNat_of_zero_le hy
  obtain ⟨c, rfl⟩ := Int.eq_ofNat_of_zero_le hc0
  refine ⟨((x + 18446744073709551616 - y - c) % 18446744073709551616 : Nat), ((if x < y + c then 1 else 0 : Nat) : Int), fun w => ?_, by omega, by omega, by split <;> omega, by split <;> omega, by split <;> omega⟩
  rw [run_callFunc_extern Tryz.func240 (by kernel_rfl) (by kernel_rfl) (by kernel_rfl) (e := sub64Entry) (by kernel_rfl), run_sub64 x y c (by omega)]
  rfl

set_option maxHeartbeats 400000 in
theorem wordAt_in (b o n cap : Nat) (k : Nat) (x : Int) (w : World) (hk : k < n) (hc : w.cell? ⟨b, o + k, none⟩ = some (.int .u64 x)) :
    Calls Tryz.prog 239 #[.slice (some ⟨b, o, none⟩) n cap, .int .i64 k] w fun e w' => e = .returned (.int .u64 x) ∧ w = w' := by
  go_enter Tryz.func239, Tryz.ntmps239
  go_wp2
  go_ret
  exact ⟨rfl, rfl⟩
set_option maxHeartbeats 400000 in
theorem wordAt_out (ao : Option Addr) (n cap : Nat) (k : Nat) (w : World) (hk : n ≤ k) :
    Calls Tryz.prog 239 #[.slice ao n cap, .int .i64 k] w fun e w' => e = .returned (.int .u64 0) ∧ w = w' := by
  go_enter Tryz.func239, Tryz.ntmps239
  go_wp2
  go_ret
  exact ⟨rfl, rfl⟩
theorem wordAt_any {v : Value} {xs : List Int} {w : World} (h : Sl .u64 w v xs) (k : Nat) (x : Int) (hx : Hid (x = xs[k]?.getD 0)) :
    Calls Tryz.prog 239 #[v, .int .i64 k] w fun e w' => e = .returned (.int .u64 x) ∧ w = w' := by
  obtain ⟨ao, cap, rfl, hcap, hmax, hc⟩ := h
  by_cases hk : k < xs.length
  · obtain ⟨b, o, rfl, hb, hcell⟩ := hc k hk
    rw [← hx.out] at hcell
    exact wordAt_in b o _ cap k x w hk hcell
  · have : x = 0 := by rw [hx.out]; simp [hk]
    subst this
    exact wordAt_out ao _ cap k w (by omega)
end Go.Proofs.YtdnheaafcbihbaaGreat

set_option linter.unusedVariables false
set_option linter.unusedSimpArgs false
namespace Go.Proofs.YtdnheaafcbihbaaGreat
open Go Go.RowKit
theorem Sl.cut_of {K : IntKind} {w : World} {ao : Option Addr} {xs : List Int} {k : Nat} (hk : k ≤ xs.length) (hm : xs.length ≤ maxLen)
    (hx : ∀ i, i < xs.length → ∃ b o, ao = some ⟨b, o, none⟩ ∧ b < w.heap.size ∧ w.cell? ⟨b, o + i, none⟩ = some (.int K (xs[i]?.getD 0))) : Sl K w (.slice ao k k) (xs.take k) := by
  refine ⟨ao, k, by simp [Nat.min_eq_left hk], by simp [Nat.min_eq_left hk], Nat.le_trans hk hm, fun i hi => ?_⟩
  have hi' : i < k := by simpa [Nat.min_eq_left hk] using hi
  obtain ⟨b, o, e, hl, hcell⟩ := hx i (by omega)
  exact ⟨b, o, e, hl, by rw [hcell, List.getElem?_take, if_pos hi']⟩
set_option maxHeartbeats 400000 in
theorem cut_any (v : Value) (xs : List Int) (w : World) (h : Sl .u64 w v xs) :
    Calls Tryz.prog 196 #[v] w (RetSame .u64 w v (Dg.cut xs)) := by
  obtain ⟨ao, cap, rfl, hcap, hmax, hc⟩ := h
  have hmax' := hmax
  unfold maxLen at hmax
  go_enter Tryz.func196, Tryz.ntmps196
  go_wp2
  go_loop [3] (fun n => ∃ k : Nat, k ≤ xs.length ∧ n = .int .i64 k ∧ Hid (∀ i, k ≤ i → xs[i]?.getD 0 = 0)) (fun n => (intOf n).toNat)
  case atStart => exact ⟨xs.length, Nat.le_refl _, rfl, fun i hi => by simp [hi]⟩
  case round =>
    obtain ⟨k, hk, rfl, hz⟩ := hrel
    by_cases h0 : 0 < k
    · obtain ⟨b, o, rfl, hb, hcell⟩ := hc (k-1) (by omega)
      obtain ⟨k, rfl⟩ : ∃ j, k = j+1 := ⟨k - 1, by omega⟩
      obtain ⟨x, hx⟩ : ∃ x, x = xs[k]?.getD 0 := ⟨_, rfl⟩
      simp only [Nat.add_sub_cancel] at hcell
      rw [← hx] at hcell
      have HX := Lib.hid hx
      clear hx
      go_wp2
      · have h1 : (x == 0) = true := by assumption
        refine ⟨⟨k, by omega, rfl, fun i hi => ?_⟩, by simp [intOf]⟩
        by_cases e : i = k
        · rw [e, ← HX.out]; simpa using h1
        · exact hz.out i (by omega)
      · have h1 : (x == 0) = false := by assumption
        go_ret
        refine ⟨rfl, _, rfl, ?_⟩
        rw [Dg.cut_eq xs (k + 1) hz.out (Or.inr (by simpa [← HX.out] using h1))]
        exact ⟨Sl.cut_of hk (Nat.le_trans hcap hmax') hc, fun k h => h⟩
    · obtain rfl : k = 0 := by omega
      go_wp2
      go_ret
      refine ⟨rfl, _, rfl, ?_⟩
      rw [Dg.cut_eq xs 0 hz.out (Or.inl rfl)]
      exact ⟨Sl.nil _ _, fun k h => by simp [Value.ownBlock] at h⟩
end Go.Proofs.YtdnheaafcbihbaaGreat

set_option linter.unusedVariables false
set_option linter.unusedSimpArgs false
namespace Go.Proofs.YtdnheaafcbihbaaGreat
open Go Go.RowKit

/-- The slice value v holds the number n, in at most L words. -/
def Num (L : Nat) (w : World) (v : Value) (n : Int) : Prop := ∃ xs, Sl .u64 w v xs ∧ Dg.Wf BW xs ∧ Dg.Nz xs ∧ Dg.val BW xs = n ∧ xs.length ≤ L
/-- The call returns the number n, in at most L words; of what was there nothing has turned. -/
def RetNum (L : Nat) (w : World) (n : Int) (e : Ending) (w' : World) : Prop := Below w.heap.size w w' ∧ ∃ v', e = .returned v' ∧ Num L w' v' n ∧ Frm w.heap.size v'
theorem Num.below {L : Nat} {w w' : World} {v : Value} {n : Int} (h : Num L w v n) (hb : Below w.heap.size w w') : Num L w' v n :=
  let ⟨xs, h1, h2⟩ := h; ⟨xs, h1.below hb, h2⟩
theorem Num.mono {L L' : Nat} {w : World} {v : Value} {n : Int} (h : Num L w v n) (hL : L ≤ L') : Num L' w v n :=
  let ⟨xs, h1, h2, h3, h4, h5⟩ := h; ⟨xs, h1, h2, h3, h4, Nat.le_trans h5 hL⟩

theorem cut_num {v : Value} {xs : List Int} {w : World} (h : Sl .u64 w v xs) (hw : Dg.Wf BW xs) :
    Calls Tryz.prog 196 #[v] w fun e w' => ∃ v', e = .returned v' ∧ w = w' ∧ Num xs.length w v' (Dg.val BW xs) ∧ ∀ k, v'.ownBlock = some k → v.ownBlock = some k :=
  (cut_any v xs w h).mono fun e w' ⟨hw', v', he, hs, ho⟩ => ⟨v', he, hw', ⟨Dg.cut xs, hs, hw.cut, Dg.nz_cut xs, Dg.val_cut BW xs, Dg.cut_len xs⟩, ho⟩

/-- How far the sum of the loop has come. -/
def SumAt (xs ys zs : List Int) (k : Nat) (c : Int) : Prop := zs.length = xs.length + 1 ∧ Dg.Wf BW zs ∧ 0 ≤ c ∧ c ≤ 1 ∧
  Dg.val BW (zs.take k) + c * BW ^ k = Dg.val BW (xs.take k) + Dg.val BW (ys.take k) ∧ ∀ i, k ≤ i → zs[i]?.getD 0 = 0
theorem SumAt.start (xs ys : List Int) : SumAt xs ys (List.replicate (xs.length + 1) 0) 0 0 :=
  ⟨by simp, Dg.Wf.zeros (by decide) _, by decide, by decide, by simp [Dg.val], fun i _ => by simp [List.getElem?_replicate]; split <;> rfl⟩
theorem SumAt.next {xs ys zs : List Int} {k : Nat} {c x y s d : Int} (h : SumAt xs ys zs k c) (hk : k < xs.length) (hx : x = xs[k]?.getD 0) (hy : y = ys[k]?.getD 0)
    (s0 : 0 ≤ s) (s1 : s < BW) (d0 : 0 ≤ d) (d1 : d ≤ 1) (he : x + y + c = s + BW * d) : SumAt xs ys (zs.set k s) (k + 1) d := by
  obtain ⟨hl, hw, c0, c1, hv, hz⟩ := h
  refine ⟨by simpa using hl, hw.set k s0 s1, d0, d1, ?_, fun i hi => by rw [List.getElem?_set_ne (by omega)]; exact hz i (by omega)⟩
  rw [Dg.take_set_succ zs k s (by omega), Dg.val_append, Dg.val_one, Dg.val_take_succD, Dg.val_take_succD, ← hx, ← hy, Int.pow_succ]
  have : (zs.take k).length = k := by simp; omega
  rw [this]
  exact Dg.step_sum hv he
theorem SumAt.done {xs ys zs : List Int} {c : Int} (h : SumAt xs ys zs xs.length c) (hy : ys.length ≤ xs.length) :
    Dg.Wf BW (zs.set xs.length c) ∧ Dg.val BW (zs.set xs.length c) = Dg.val BW xs + Dg.val BW ys := by
  obtain ⟨hl, hw, c0, c1, hv, hz⟩ := h
  refine ⟨hw.set _ c0 (by unfold BW; omega), ?_⟩
  rw [Dg.set_last zs _ c hl, Dg.val_append, Dg.val_one]
  have : (zs.take xs.length).length = xs.length := by simp; omega
  rw [this]
  rw [List.take_of_length_le (Nat.le_refl _), List.take_of_length_le hy] at hv
  rw [← hv, Int.mul_comm]
end Go.Proofs.YtdnheaafcbihbaaGreat

set_option linter.unusedVariables false
set_option linter.unusedSimpArgs false
namespace Go.Proofs.YtdnheaafcbihbaaGreat
open Go Go.RowKit
theorem tquietSame {P : Program} {f : FuncId} {args : Array Value} {w : World} {n : Nat} {v : Value}
    (h : Calls P f args (w.drewN n) fun e w' => e = .returned v ∧ w.drewN n = w') : Calls P f args (w.drewN n) fun e w'' => e = .returned v ∧ ∃ m, w'' = w.drewN m :=
  h.mono fun _ _ ⟨he, hm⟩ => ⟨he, n, hm.symm⟩
set_option maxHeartbeats 400000 in
theorem cmpInt_any (x y : Int) (w : World) :
    Calls Tryz.prog 200 #[.int .i64 x, .int .i64 y] w fun e w' => e = .returned (.int .i64 (Dg.sg x y)) ∧ w = w' := by
  rcases Int.lt_trichotomy x y with h | rfl | h
  · go_enter Tryz.func200, Tryz.ntmps200
    go_wp2
    go_ret
    exact ⟨by rw [Dg.sg_lt h]; rfl, rfl⟩
  · go_enter Tryz.func200, Tryz.ntmps200
    go_wp2
    go_ret
    exact ⟨by rw [Dg.sg_eq]; rfl, rfl⟩
  · go_enter Tryz.func200, Tryz.ntmps200
    go_wp2
    go_ret
    exact ⟨by rw [Dg.sg_gt h]; rfl, rfl⟩
set_option maxHeartbeats 400000 in
theorem cmpWord_any (x y : Int) (w : World) :
    Calls Tryz.prog 201 #[.int .u64 x, .int .u64 y] w fun e w' => e = .returned (.int .i64 (Dg.sg x y)) ∧ w = w' := by
  rcases Int.lt_trichotomy x y with h | rfl | h
  · go_enter Tryz.func201, Tryz.ntmps201
    go_wp2
    go_ret
    exact ⟨by rw [Dg.sg_lt h]; rfl, rfl⟩
  · go_enter Tryz.func201, Tryz.ntmps201
    go_wp2
    go_ret
    exact ⟨by rw [Dg.sg_eq]; rfl, rfl⟩
  · go_enter Tryz.func201, Tryz.ntmps201
    go_wp2
    go_ret
    exact ⟨by rw [Dg.sg_gt h]; rfl, rfl⟩
/-- The call returns v, and of what was there nothing has turned. -/
def RetV (w : World) (v : Value) (e : Ending) (w' : World) : Prop := Below w.heap.size w w' ∧ e = .returned v
set_option maxHeartbeats 1000000 in
theorem compare_eqlen {va vb : Value} {xs ys : List Int} {w : World} (ha : Sl .u64 w va xs) (hb : Sl .u64 w vb ys) (hwa : Dg.Wf BW xs) (hwb : Dg.Wf BW ys) (hl : ys.length = xs.length) :
    Calls Tryz.prog 142 #[va, vb] w (RetV w (.int .i64 (Dg.sg (Dg.val BW xs) (Dg.val BW ys)))) := by
  obtain ⟨ao, cap, rfl, hcap, hmax, hc⟩ := ha
  obtain ⟨bo, bcap, rfl, hbcap, hbmax, hbc⟩ := hb
  unfold maxLen at hmax hbmax
  rw [hl] at hbcap ⊢
  have HL := Lib.hid hl
  simp only [hl] at hbc
  clear hl
  have hz : (Dg.sg (xs.length : Int) xs.length) = 0 := Dg.sg_eq _
  go_enter Tryz.func142, Tryz.ntmps142
  go_wp2_with (go_at_call 200; refine (cmpInt_any _ _ _).mono ?_; rintro e w' ⟨rfl, rfl⟩)
  go_loopw [6] (fun i wr => ∃ (k : Nat) (j : Int), k ≤ xs.length ∧ Hid (j + 1 = k) ∧ i = .int .i64 j ∧ Hid (xs.drop k = ys.drop k) ∧ Below w.heap.size w wr) (fun i _ => (intOf i + 1).toNat)
  case atStart => exact ⟨xs.length, _, Nat.le_refl _, by show _ - (1 : Int) + 1 = _; omega, rfl, by show xs.drop xs.length = ys.drop xs.length; rw [← HL.out]; simp [HL.out], Below.refl _ _⟩
  case round =>
    obtain ⟨k, j, hk, hj, rfl, hd, hbl⟩ := hrel
    by_cases h0 : 0 < k
    · obtain ⟨k, rfl⟩ : ∃ j, k = j+1 := ⟨k - 1, by omega⟩
      obtain rfl : j = (k : Int) := by have := hj.out; omega
      clear hj
      obtain ⟨b, o, rfl, hbs, hcell⟩ := hc k (by omega)
      obtain ⟨b', o', rfl, hbs', hcell'⟩ := hbc k (by omega)
      obtain ⟨x, hx⟩ : ∃ x, x = xs[k]?.getD 0 := ⟨_, rfl⟩
      obtain ⟨y, hy⟩ : ∃ y, y = ys[k]?.getD 0 := ⟨_, rfl⟩
      rw [← hx] at hcell
      rw [← hy] at hcell'
      have HX := Lib.hid hx
      have HY := Lib.hid hy
      clear hx hy
      have hcl := (hbl.cell (p := ⟨b, o + k, none⟩) hbs).trans hcell
      have hcl' := (hbl.cell (p := ⟨b', o' + k, none⟩) hbs').trans hcell'
      clear hcell hcell' hc hbc
      have hbd : ∀ q, Below w.heap.size w (wr.drewN q) := fun q => ⟨hbl.os, hbl.tape, hbl.output, hbl.size, hbl.block⟩
      have hki : k < xs.length := by omega
      rcases Int.lt_trichotomy x y with h | h | h
      · have hs := Dg.sg_lt h
        go_wp2_with fail
        go_quiet ((go_at_call 201; exact tquietSame (cmpWord_any _ _ _)))
        go_wp2
        go_ret
        refine ⟨hbd _, ?_⟩
        rw [Dg.sg_lt (Dg.val_lt_at (by decide) hwa hwb HL.out.symm (k := k) (by omega) hd.out (by rw [← HX.out, ← HY.out]; exact h))]
        show Ending.returned (.int .i64 (Dg.sg x y)) = _
        rw [hs]
      · subst h
        have hs := Dg.sg_eq x
        go_wp2_with fail
        go_quiet ((go_at_call 201; exact tquietSame (cmpWord_any _ _ _)))
        go_wp2
        go_roundw
        case rel => exact ⟨k, (k : Int) - 1, by omega, by show _ - (1 : Int) + 1 = _; omega, rfl, Dg.drop_eq_at HL.out.symm hd.out (by rw [← HX.out, ← HY.out]), hbd _⟩
        case measure => simp [intOf] <;> omega
      · have hs := Dg.sg_gt h
        go_wp2_with fail
        go_quiet ((go_at_call 201; exact tquietSame (cmpWord_any _ _ _)))
        go_wp2
        go_ret
        refine ⟨hbd _, ?_⟩
        rw [Dg.sg_gt (Dg.val_lt_at (by decide) hwb hwa HL.out (k := k) (by have := HL.out; omega) hd.out.symm (by rw [← HX.out, ← HY.out]; exact h))]
        show Ending.returned (.int .i64 (Dg.sg x y)) = _
        rw [hs]
    · obtain rfl : k = 0 := by omega
      obtain rfl : j = -1 := by have := hj.out; omega
      have he : xs = ys := by simpa using hd.out
      have hs : Dg.sg (Dg.val BW xs) (Dg.val BW ys) = 0 := by rw [he]; exact Dg.sg_eq _
      have HS := Lib.hid hs
      clear hj hd he hs
      go_wp2
      go_ret
      exact ⟨hbl, by rw [HS.out]; rfl⟩
set_option maxHeartbeats 1000000 in
theorem compare_any {va vb : Value} {xs ys : List Int} {w : World} (ha : Sl .u64 w va xs) (hb : Sl .u64 w vb ys) (hwa : Dg.Wf BW xs) (hwb : Dg.Wf BW ys) (hna : Dg.Nz xs) (hnb : Dg.Nz ys) :
    Calls Tryz.prog 142 #[va, vb] w (RetV w (.int .i64 (Dg.sg (Dg.val BW xs) (Dg.val BW ys)))) := by
  rcases Nat.lt_trichotomy xs.length ys.length with h | h | h
  · have hs : Dg.sg (xs.length : Int) ys.length = -1 := Dg.sg_lt (by omega)
    have hv : Dg.sg (Dg.val BW xs) (Dg.val BW ys) = -1 := Dg.sg_lt (Dg.val_lt_of_len (by decide) hwa hwb hnb h)
    obtain ⟨ao, cap, rfl, hcap, hmax, hc⟩ := ha
    obtain ⟨bo, bcap, rfl, hbcap, hbmax, hbc⟩ := hb
    have HV := Lib.hid hv
    clear hv
    go_enter Tryz.func142, Tryz.ntmps142
    go_wp2_with (go_at_call 200; refine (cmpInt_any _ _ _).mono ?_; rintro e w' ⟨rfl, rfl⟩)
    go_ret
    exact ⟨Below.refl _ _, by rw [HV.out]; rfl⟩
  · exact compare_eqlen ha hb hwa hwb h.symm
  · have hs : Dg.sg (xs.length : Int) ys.length = 1 := Dg.sg_gt (by omega)
    have hv : Dg.sg (Dg.val BW xs) (Dg.val BW ys) = 1 := Dg.sg_gt (Dg.val_lt_of_len (by decide) hwb hwa hna h)
    obtain ⟨ao, cap, rfl, hcap, hmax, hc⟩ := ha
    obtain ⟨bo, bcap, rfl, hbcap, hbmax, hbc⟩ := hb
    have HV := Lib.hid hv
    clear hv
    go_enter Tryz.func142, Tryz.ntmps142
    go_wp2_with (go_at_call 200; refine (cmpInt_any _ _ _).mono ?_; rintro e w' ⟨rfl, rfl⟩)
    go_ret
    exact ⟨Below.refl _ _, by rw [HV.out]; rfl⟩
theorem compare_num {La Lb : Nat} {va vb : Value} {m n : Int} {w : World} (ha : Num La w va m) (hb : Num Lb w vb n) :
    Calls Tryz.prog 142 #[va, vb] w (RetV w (.int .i64 (Dg.sg m n))) := by
  obtain ⟨xs, h1, h2, h3, rfl, _⟩ := ha
  obtain ⟨ys, k1, k2, k3, rfl, _⟩ := hb
  exact compare_any h1 k1 h2 k2 h3 k3
end Go.Proofs.YtdnheaafcbihbaaGreat

set_option linter.unusedVariables false
set_option linter.unusedSimpArgs false
namespace Go.Proofs.YtdnheaafcbihbaaGreat
open Go Go.RowKit
def Two (x y : Int) (c : Int) (w : World) (e : Ending) (w' : World) : Prop := ∃ h l : Int, e = .returned (.tuple #[.int .u64 h, .int .u64 l]) ∧ w = w' ∧
  0 ≤ h ∧ h < 18446744073709551616 ∧ 0 ≤ l ∧ l < 18446744073709551616 ∧ x * y + c = h * 18446744073709551616 + l
theorem mul64 (x y : Int) (w : World) (hx : 0 ≤ x) (hx1 : x < 18446744073709551616) (hy : 0 ≤ y) (hy1 : y < 18446744073709551616) :
    Calls Tryz.prog 261 #[.int .u64 x, .int .u64 y] w (Two x y 0 w) := by
  obtain ⟨x, rfl⟩ := Int.eq_ofNat_of_zero_le hx
  obtain ⟨y, rfl⟩ := Int.eq_ofNat_of_zero_le hy
  refine (Go.Proofs.Tryz.bits_Mul64 x y (by omega) (by omega) w).mono fun e w' ⟨he, hw⟩ => ?_
  have hb := Dg.mul_bound (B := 18446744073709551616) hx hx1 hy hy1
  have hp : 0 ≤ (x : Int) * y := Int.mul_nonneg hx hy
  refine ⟨_, _, he, hw.symm, by omega, ?_, by omega, by omega, ?_⟩
  · have : (x * y : Nat) / 18446744073709551616 < 18446744073709551616 := by
      apply Nat.div_lt_of_lt_mul
      have : ((x * y : Nat) : Int) = x * y := Int.natCast_mul _ _
      omega
    omega
  · have e1 : ((x * y : Nat) : Int) = x * y := Int.natCast_mul _ _
    have := Nat.div_add_mod (x * y) 18446744073709551616
    omega
set_option maxHeartbeats 400000 in
theorem mulAdd (x y c : Int) (w : World) (hx : 0 ≤ x) (hx1 : x < 18446744073709551616) (hy : 0 ≤ y) (hy1 : y < 18446744073709551616) (hc : 0 ≤ c) (hc1 : c < 18446744073709551616) :
    Calls Tryz.prog 259 #[.int .u64 x, .int .u64 y, .int .u64 c] w (Two x y c w) := by
  have hbd := Dg.mul_bound (B := 18446744073709551616) hx hx1 hy hy1
  have HB := Lib.hid hbd
  clear hbd
  go_enter Tryz.func259, Tryz.ntmps259
  go_wp2_with fail
  refine (mul64 x y _ hx hx1 hy hy1).mono ?_
  rintro e w' ⟨h, l, rfl, rfl, h0, h1, l0, l1, hv⟩
  obtain ⟨s, k, hadd, s0, s1, k0, k1, hs⟩ := add64 l c 0 l0 l1 hc hc1 (by omega) (by omega)
  have hkb : h + k ≤ 18446744073709551615 := by have := HB.out; omega
  have HV := Lib.hid hv
  have HS := Lib.hid hs
  clear hv hs
  go_wp2
  go_ret2
  exact ⟨_, _, rfl, rfl, by omega, by omega, s0, s1, by have := HV.out; have := HS.out; omega⟩
end Go.Proofs.YtdnheaafcbihbaaGreat

set_option linter.unusedVariables false
set_option linter.unusedSimpArgs false
namespace Go.Proofs.YtdnheaafcbihbaaGreat
open Go Go.RowKit
theorem tgrowRefl (w : World) (r : Option Nat) : w.grownBy w r := ⟨rfl, rfl, rfl, Nat.le_refl _, fun _ _ _ => rfl⟩
theorem tgrowTrans {a b c : World} {r : Option Nat} (h : a.grownBy b r) (k : b.grownBy c r) : a.grownBy c r :=
  ⟨k.os.trans h.os, k.tape.trans h.tape, k.output.trans h.output, Nat.le_trans h.size k.size, fun i hi hne => (k.block i (Nat.lt_of_lt_of_le hi h.size) hne).trans (h.block i hi hne)⟩
theorem tgrowSet {w w' : World} {g : Nat} (h : w.grownBy w' (some g)) (i : Nat) (v : Value) : w.grownBy (w'.setCell ⟨g, i, none⟩ v) (some g) :=
  tgrowTrans h ⟨rfl, rfl, rfl, by simp [World.setCell], fun k _ hk => heap_setCell_other w' ⟨g, i, none⟩ k v (fun e => hk (by rw [e]))⟩
theorem tgrowBelow {w w' : World} {r : Option Nat} (h : Below w.heap.size w w') : w.grownBy w' r := ⟨h.os, h.tape, h.output, h.size, fun i hi _ => h.block i hi⟩
theorem tbelowGrow {w0 w w' : World} {g : Nat} (h : w.grownBy w' (some g)) (hb : Below w0.heap.size w0 w) (hg : w0.heap.size ≤ g) : Below w0.heap.size w0 w' :=
  hb.grown h hb.size (fun k hk => by cases hk; exact hg)
/-- How far addMultiple has come. -/
def AmAt (M us M' : List Int) (f : Int) (k : Nat) (c : Int) : Prop := M'.length = M.length ∧ Dg.Wf BW M' ∧ 0 ≤ c ∧ c < 18446744073709551616 ∧
  Dg.val BW (M'.take k) + c * BW ^ k = Dg.val BW (M.take k) + f * Dg.val BW (us.take k) ∧ ∀ i, k ≤ i → M'[i]?.getD 0 = M[i]?.getD 0
theorem AmAt.start {M : List Int} (hM : Dg.Wf BW M) (us : List Int) (f : Int) : AmAt M us M f 0 0 := ⟨rfl, hM, by decide, by decide, by simp [Dg.val], fun _ _ => rfl⟩
theorem AmAt.next {M us M' : List Int} {f : Int} {k : Nat} {c x m h l s d : Int} (H : AmAt M us M' f k c) (hk : k < M.length) (hx : x = us[k]?.getD 0) (hm : m = M'[k]?.getD 0)
    (he : x * f + c = h * 18446744073709551616 + l) (hs : m + l + 0 = s + 18446744073709551616 * d) (s0 : 0 ≤ s) (s1 : s < 18446744073709551616) (d0 : 0 ≤ h + d) (d1 : h + d < 18446744073709551616) :
    AmAt M us (M'.set k s) f (k + 1) (h + d) := by
  obtain ⟨hl, hw, c0, c1, hv, hz⟩ := H
  refine ⟨by simpa using hl, hw.set k s0 s1, d0, d1, ?_, fun i hi => by rw [List.getElem?_set_ne (by omega)]; exact hz i (by omega)⟩
  rw [Dg.take_set_succ M' k s (by omega), Dg.val_append, Dg.val_one, Dg.val_take_succD, Dg.val_take_succD, ← hx, ← hz k (Nat.le_refl _), ← hm, Int.pow_succ]
  have : (M'.take k).length = k := by simp; omega
  rw [this]
  exact Dg.step_mul hv he (by rw [Int.add_zero] at hs; exact hs)
theorem AmAt.done {M us M' : List Int} {f c : Int} (H : AmAt M us M' f us.length c) (hl : M.length = us.length) : Dg.val BW M' + c * BW ^ us.length = Dg.val BW M + f * Dg.val BW us := by
  obtain ⟨hl', hw, c0, c1, hv, hz⟩ := H
  rw [List.take_of_length_le (by omega), List.take_of_length_le (by omega), List.take_of_length_le (Nat.le_refl _)] at hv
  exact hv
/-- What addMultiple leaves. -/
def AmRet (w : World) (g : Nat) (P M S us : List Int) (f : Int) (e : Ending) (w' : World) : Prop :=
  ∃ (c : Int) (M' : List Int), e = .returned (.int .u64 c) ∧ Row 165 .u64 w' g (P ++ M' ++ S) ∧ w.grownBy w' (some g) ∧ M'.length = M.length ∧ Dg.Wf BW M' ∧ 0 ≤ c ∧ c < 18446744073709551616 ∧
    Dg.val BW M' + c * BW ^ us.length = Dg.val BW M + f * Dg.val BW us
set_option maxHeartbeats 1000000 in
theorem taddMultiple_any (g cap : Nat) (P M S us : List Int) (va : Value) (f : Int) (w0 w : World) (ha : Sl .u64 w0 va us) (hb0 : Below w0.heap.size w0 w) (hg : w0.heap.size ≤ g)
    (hr : Row 165 .u64 w g (P ++ M ++ S)) (hM : M.length = us.length) (hwM : Dg.Wf BW M) (hwa : Dg.Wf BW us) (hf : 0 ≤ f) (hf1 : f < 18446744073709551616) :
    Calls Tryz.prog 242 #[.slice (some ⟨g, P.length, none⟩) us.length cap, va, .int .u64 f] w (AmRet w g P M S us f) := by
  obtain ⟨ao, acap, rfl, hcap, hmax, hc⟩ := ha
  unfold maxLen at hmax
  have HM := Lib.hid hM
  clear hM
  go_enter Tryz.func242, Tryz.ntmps242
  go_wp2
  go_loopw [7, 15] (fun c i wr => ∃ (k : Nat) (cv : Int) (M' : List Int), k ≤ us.length ∧ i = .int .i64 k ∧ c = .int .u64 cv ∧ Hid (AmAt M us M' f k cv) ∧ Row 165 .u64 wr g (P ++ M' ++ S) ∧ w.grownBy wr (some g)) (fun _ i _ => us.length - (intOf i).toNat)
  case atStart => exact ⟨0, 0, M, Nat.zero_le _, rfl, rfl, AmAt.start hwM us f, hr, tgrowRefl _ _⟩
  case round =>
    obtain ⟨k, cv, M', hk, rfl, rfl, hat, hrr, hgr⟩ := hrel
    have hz0 : 0 ≤ cv := hat.out.2.2.1
    have hz1 : cv < 18446744073709551616 := hat.out.2.2.2.1
    by_cases hlt : k < us.length
    · have hMl : k < M'.length := by have := hat.out.1; have := HM.out; omega
      obtain ⟨b, o, rfl, hbs, hcell⟩ := hc k hlt
      obtain ⟨x, hx⟩ : ∃ x, x = us[k]?.getD 0 := ⟨_, rfl⟩
      obtain ⟨m, hm⟩ : ∃ m, m = M'[k]?.getD 0 := ⟨_, rfl⟩
      have hxb := wfD hwa k
      have hmb := wfD hat.out.2.1 k
      have hcl := ((tbelowGrow hgr hb0 hg).cell (p := ⟨b, o + k, none⟩) hbs).trans hcell
      have hcz := hrr.cell (i := P.length + k) (by simp; omega)
      rw [Dg.mid_get P M' S k hMl, ← hm] at hcz
      have hfz := hrr.free (P.length + k)
      rw [← hx] at hcl hxb
      rw [← hm] at hmb
      have HX := Lib.hid hx
      have HMM := Lib.hid hm
      clear hx hm hcell
      have hxf := Lib.hid (Dg.mul_bound (B := 18446744073709551616) hxb.1 hxb.2 hf hf1)
      go_wp2_with fail
      refine (mulAdd x f cv _ hxb.1 hxb.2 hf hf1 hz0 hz1).mono ?_
      rintro e w' ⟨h, l, rfl, rfl, h0, h1, l0, l1, hv⟩
      obtain ⟨s, d, hadd, s0, s1, d0, d1, hs⟩ := add64 m l 0 hmb.1 hmb.2 l0 l1 (by omega) (by omega)
      have hkb : h + d ≤ 18446744073709551615 := by have := hxf.out; omega
      have HV := Lib.hid hv
      have HS := Lib.hid hs
      clear hv hs
      go_wp2
      have hrs := hrr.set (P.length + k) s
      rw [Dg.mid_set P M' S k s hMl] at hrs
      go_roundw
      case rel => exact ⟨k + 1, h + d, M'.set k s, by omega, by go_num, rfl, hat.out.next (by have := HM.out; omega) HX.out HMM.out HV.out HS.out s0 s1 (by omega) (by omega), hrs, tgrowSet hgr _ _⟩
      case measure => simp [intOf] <;> omega
    · obtain rfl : k = us.length := by omega
      go_wp2
      go_ret
      exact ⟨_, M', rfl, hrr, hgr, hat.out.1, hat.out.2.1, hz0, hz1, hat.out.done HM.out⟩
end Go.Proofs.YtdnheaafcbihbaaGreat

set_option linter.unusedVariables false
set_option linter.unusedSimpArgs false
namespace Go.Proofs.YtdnheaafcbihbaaGreat
open Go Go.RowKit
set_option maxHeartbeats 1000000 in
theorem sum_core (sw : Bool) (va vb : Value) (xs ys : List Int) (w : World) (ha : Sl .u64 w va xs) (hb : Sl .u64 w vb ys) (hwa : Dg.Wf BW xs) (hwb : Dg.Wf BW ys)
    (hle : ys.length ≤ xs.length) (hlt : sw = true → ys.length < xs.length) (hmx : xs.length ≤ 17000000000000) :
    Calls Tryz.prog 194 (if sw then #[vb, va] else #[va, vb]) w (RetNum (xs.length + 1) w (Dg.val BW xs + Dg.val BW ys)) := by
  have hb' := hb
  have ha' := ha
  obtain ⟨ao, cap, rfl, hcap, hmax, hc⟩ := ha
  obtain ⟨bo, bcap, rfl, hbcap, hbmax, hbc⟩ := hb
  unfold maxLen at hmax hbmax
  cases sw
  all_goals
    simp only [if_true, if_false, Bool.false_eq_true, forall_const] at hlt ⊢
    go_enter Tryz.func194, Tryz.ntmps194
    go_wp2_with (at_make; refine wpList_make_zeros _ rfl _ _ 96 rfl 165 .u64 Tryz.underlying96 info_u64 _ _ (xs.length + 1) rfl rfl (by omega) (by omega) (by omega) ?_)
  all_goals
    intro w1 hrow hbel
    go_wp2
    go_loopw [6, 22] (fun c i wr => ∃ (k : Nat) (cv : Int) (zs : List Int), k ≤ xs.length ∧ i = .int .i64 k ∧ c = .int .u64 cv ∧ Hid (SumAt xs ys zs k cv) ∧ Row 165 .u64 wr w.heap.size zs ∧ Below w.heap.size w wr) (fun _ i _ => xs.length - (intOf i).toNat)
    case atStart => exact ⟨0, 0, _, Nat.zero_le _, rfl, rfl, SumAt.start xs ys, hrow, hbel⟩
    case round =>
      obtain ⟨k, cv, zs, hk, rfl, rfl, hat, hr, hbl⟩ := hrel
      have hzl : zs.length = xs.length + 1 := hat.out.1
      have hz0 : 0 ≤ cv := hat.out.2.2.1
      have hz1 : cv ≤ 1 := hat.out.2.2.2.1
      clear hrow hbel
      by_cases hlt' : k < xs.length
      · obtain ⟨b, o, rfl, hbs, hcell⟩ := hc k hlt'
        obtain ⟨x, hx⟩ : ∃ x, x = xs[k]?.getD 0 := ⟨_, rfl⟩
        obtain ⟨y, hy⟩ : ∃ y, y = ys[k]?.getD 0 := ⟨_, rfl⟩
        have hxb := wfD hwa k
        have hyb := wfD hwb k
        rw [← hx] at hcell hxb
        rw [← hy] at hyb
        have HX := Lib.hid hx
        have HY := Lib.hid hy
        clear hx hy
        have hcl := (hbl.cell (p := ⟨b, o + k, none⟩) hbs).trans hcell
        have hsl := hb'.below hbl
        have hcz := hr.cell (i := k) (by omega)
        have hfz := hr.free k
        obtain ⟨s, d, hadd, hs0, hs1, hd0, hd1, hsd⟩ := add64 x y cv hxb.1 hxb.2 hyb.1 hyb.2 hz0 hz1
        have HSD := Lib.hid hsd
        clear hsd hcell
        go_wp2_with (go_at_call 239; refine (wordAt_any hsl k y HY).mono ?_; rintro e w' ⟨rfl, rfl⟩)
        go_roundw
        case rel => exact ⟨k + 1, d, zs.set k s, by omega, by go_num, rfl, hat.out.next hlt' HX.out HY.out hs0 hs1 hd0 hd1 HSD.out, hr.set k s, hbl.setCell (Nat.le_refl _) _⟩
        case measure => simp [intOf] <;> omega
      · obtain rfl : k = xs.length := by omega
        have hcz := hr.cell (i := xs.length) (by omega)
        have hfz := hr.free xs.length
        obtain ⟨hdw, hdv⟩ := hat.out.done hle
        have hrs := hr.set xs.length cv
        have hlen : (zs.set xs.length cv).length = xs.length + 1 := by simpa using hzl
        have hSl := hrs.slAll (n := xs.length + 1) (cap := xs.length + 1) hlen.symm (Nat.le_refl _) (by unfold maxLen; omega)
        have hbl2 : Below w.heap.size w (wr.setCell ⟨w.heap.size, xs.length, none⟩ (.int .u64 cv)) := hbl.setCell (Nat.le_refl _) _
        have HL := Lib.hid hlen
        have HV := Lib.hid hdv
        clear hlen hdv hat hzl
        go_wp2_with (go_at_call 196; refine (cut_num hSl hdw).mono ?_; rintro e w' ⟨v', rfl, rfl, hn, hob⟩; have HOB := Lib.hid hob; clear hob)
        go_ret
        rw [HV.out, HL.out] at hn
        exact ⟨hbl2, _, rfl, hn, (Frm.mk (Nat.le_refl _)).of HOB.out⟩
end Go.Proofs.YtdnheaafcbihbaaGreat

set_option linter.unusedVariables false
set_option linter.unusedSimpArgs false
namespace Go.Proofs.YtdnheaafcbihbaaGreat
open Go Go.RowKit
theorem addMultiple_at (g cap o n : Nat) (P M S us : List Int) (va : Value) (f : Int) (w0 w : World) (ha : Sl .u64 w0 va us) (hb0 : Below w0.heap.size w0 w) (hg : w0.heap.size ≤ g)
    (hr : Row 165 .u64 w g (P ++ M ++ S)) (ho : Hid (P.length = o)) (hn : Hid (us.length = n)) (hM : M.length = us.length) (hwM : Dg.Wf BW M) (hwa : Dg.Wf BW us) (hf : 0 ≤ f) (hf1 : f < 18446744073709551616) :
    Calls Tryz.prog 242 #[.slice (some ⟨g, o, none⟩) n cap, va, .int .u64 f] w (AmRet w g P M S us f) := by
  rw [← ho.out, ← hn.out]
  exact taddMultiple_any g cap P M S us va f w0 w ha hb0 hg hr hM hwM hwa hf hf1
/-- How far the product has come. -/
def PrAt (xs ys T : List Int) (k : Nat) : Prop := T.length = xs.length + ys.length ∧ Dg.Wf BW T ∧ Dg.val BW T = Dg.val BW xs * Dg.val BW (ys.take k) ∧ ∀ i, xs.length + k ≤ i → T[i]?.getD 0 = 0
theorem PrAt.start (xs ys : List Int) : PrAt xs ys (List.replicate (xs.length + ys.length) 0) 0 :=
  ⟨by simp, Dg.Wf.zeros (by decide) _, by simp [Dg.val, Dg.val_zeros], fun i _ => by simp [List.getElem?_replicate]; split <;> rfl⟩
theorem PrAt.next {xs ys T M' : List Int} {k : Nat} {c y : Int} (h : PrAt xs ys T k) (hk : k < ys.length) (hy : y = ys[k]?.getD 0)
    (hl : M'.length = ((T.drop k).take xs.length).length) (hw : Dg.Wf BW M') (c0 : 0 ≤ c) (c1 : c < 18446744073709551616)
    (hv : Dg.val BW M' + c * BW ^ xs.length = Dg.val BW ((T.drop k).take xs.length) + y * Dg.val BW xs) :
    PrAt xs ys ((T.take k ++ M' ++ T.drop (k + xs.length)).set (k + xs.length) c) (k + 1) := by
  obtain ⟨tl, tw, tv, tz⟩ := h
  have hz : ∀ i : Nat, (T.drop (k + xs.length))[i]?.getD 0 = 0 := fun i => by rw [List.getElem?_drop]; exact tz _ (by omega)
  have el : ((T.drop k).take xs.length).length = xs.length := by simp; omega
  rw [el] at hl
  have ek : (T.take k).length = k := by simp; omega
  have ed : (T.drop (k + xs.length)).length = ys.length - k := by simp; omega
  have es : (T.take k ++ M' ++ T.drop (k + xs.length)).set (k + xs.length) c = T.take k ++ M' ++ (T.drop (k + xs.length)).set 0 c := by
    rw [List.set_append_right _ _ (by simp; omega)]
    congr 2
    simp; omega
  rw [es]
  refine ⟨by simp; omega, ((tw.take k).append hw).append ((tw.drop _).set 0 c0 c1), ?_, fun i hi => ?_⟩
  · rw [Dg.val_append, Dg.val_append, Dg.val_set_zeros hz (by omega)]
    have et : Dg.val BW T = Dg.val BW (T.take k) + BW ^ k * (Dg.val BW ((T.drop k).take xs.length)) := by
      conv => lhs; rw [← Dg.three T k xs.length]
      rw [Dg.val_append, Dg.val_append, Dg.val_of_zeros hz, ek]
      simp
    rw [Dg.val_take_succD, ← hy, Int.mul_add, ← tv, et]
    have e2 : (T.take k ++ M').length = k + xs.length := by simp; omega
    rw [e2, ek, Int.pow_add]
    have e3 : BW ^ k * (Dg.val BW M' + c * BW ^ xs.length) = BW ^ k * (Dg.val BW ((T.drop k).take xs.length) + y * Dg.val BW xs) := by rw [hv]
    generalize BW ^ k = p at *
    generalize BW ^ xs.length = q at *
    simp only [Int.mul_add, Int.mul_comm, Int.mul_left_comm, Int.mul_assoc] at *
    omega
  · have hz' := hz (i - (k + xs.length))
    rw [List.getElem?_append_right (by simp; omega), List.getElem?_set_ne (by simp; omega)]
    have e2 : (T.take k ++ M').length = k + xs.length := by simp; omega
    rw [e2]
    exact hz'
theorem PrAt.done {xs ys T : List Int} (h : PrAt xs ys T ys.length) : Dg.Wf BW T ∧ Dg.val BW T = Dg.val BW xs * Dg.val BW ys :=
  ⟨h.2.1, by rw [h.2.2.1, List.take_of_length_le (Nat.le_refl _)]⟩
set_option maxHeartbeats 1000000 in
theorem product_any (va vb : Value) (xs ys : List Int) (w : World) (ha : Sl .u64 w va xs) (hb : Sl .u64 w vb ys) (hwa : Dg.Wf BW xs) (hwb : Dg.Wf BW ys)
    (hlx : xs.length ≤ 1099511627776) (hly : ys.length ≤ 1099511627776) :
    Calls Tryz.prog 199 #[va, vb] w (RetNum (xs.length + ys.length) w (Dg.val BW xs * Dg.val BW ys)) := by
  have ha' := ha
  obtain ⟨ao, cap, rfl, hcap, hmax, hc⟩ := ha
  obtain ⟨bo, bcap, rfl, hbcap, hbmax, hbc⟩ := hb
  unfold maxLen at hmax hbmax
  go_enter Tryz.func199, Tryz.ntmps199
  go_wp2_with (at_make; refine wpList_make_zeros _ rfl _ _ 96 rfl 165 .u64 Tryz.underlying96 info_u64 _ _ (xs.length + ys.length) rfl rfl (by omega) (by omega) (by omega) ?_)
  intro w1 hrow hbel
  go_wp2
  go_loopw [16] (fun i wr => ∃ (k : Nat) (T : List Int), k ≤ ys.length ∧ i = .int .i64 k ∧ Hid (PrAt xs ys T k) ∧ Row 165 .u64 wr w.heap.size T ∧ Below w.heap.size w wr) (fun i _ => ys.length - (intOf i).toNat)
  case atStart => exact ⟨0, _, Nat.zero_le _, rfl, PrAt.start xs ys, hrow, hbel⟩
  case round =>
    obtain ⟨k, T, hk, rfl, hat, hr, hbl⟩ := hrel
    clear hrow hbel
    by_cases hlt : k < ys.length
    · obtain ⟨b, o, rfl, hbs, hcell⟩ := hbc k hlt
      obtain ⟨y, hy⟩ : ∃ y, y = ys[k]?.getD 0 := ⟨_, rfl⟩
      have hyb := wfD hwb k
      rw [← hy] at hcell hyb
      have HY := Lib.hid hy
      have hcl := (hbl.cell (p := ⟨b, o + k, none⟩) hbs).trans hcell
      clear hy hcell
      have htl := Lib.hid hat.out.1
      have hr3 : Row 165 .u64 wr w.heap.size (T.take k ++ (T.drop k).take xs.length ++ T.drop (k + xs.length)) := by rw [Dg.three]; exact hr
      have ek : Hid ((T.take k).length = k) := by have := htl.out; show _ = _; simp; omega
      have el : Hid (((T.drop k).take xs.length).length = xs.length) := by have := htl.out; show _ = _; simp; omega
      go_wp2_with fail
      refine (addMultiple_at w.heap.size _ k xs.length (T.take k) ((T.drop k).take xs.length) (T.drop (k + xs.length)) xs _ y w _ ha' hbl (Nat.le_refl _) hr3 ek rfl el.out ((hat.out.2.1.drop _).take _) hwa hyb.1 hyb.2).mono ?_
      rintro e w' ⟨c, M', rfl, hr4, hgr, hml, hmw, c0, c1, hmv⟩
      have hbl4 := tbelowGrow hgr hbl (Nat.le_refl _)
      have HMV := Lib.hid hmv
      have HML := Lib.hid hml
      have hlen : (T.take k ++ M' ++ T.drop (k + xs.length)).length = xs.length + ys.length := by
        have := HML.out; have := htl.out; have := ek.out; have := el.out
        simp only [List.length_append, List.length_drop]; omega
      have hcz := hr4.cell (i := k + xs.length) (by omega)
      have hfz := hr4.free (k + xs.length)
      clear hmv hml hlen hr3
      go_wp2
      go_roundw
      case rel => exact ⟨k + 1, _, by omega, by go_num, hat.out.next hlt HY.out HML.out hmw c0 c1 HMV.out, hr4.set _ _, hbl4.setCell (Nat.le_refl _) _⟩
      case measure => simp [intOf] <;> omega
    · obtain rfl : k = ys.length := by omega
      obtain ⟨hdw, hdv⟩ := hat.out.done
      have hlen : T.length = xs.length + ys.length := hat.out.1
      have hSl := hr.slAll (n := xs.length + ys.length) (cap := xs.length + ys.length) hlen.symm (Nat.le_refl _) (by unfold maxLen; omega)
      have HL := Lib.hid hlen
      have HV := Lib.hid hdv
      clear hlen hdv hat
      go_wp2_with (go_at_call 196; refine (cut_num hSl hdw).mono ?_; rintro e w' ⟨v', rfl, rfl, hn, hob⟩; have HOB := Lib.hid hob; clear hob)
      go_ret
      rw [HV.out, HL.out] at hn
      exact ⟨hbl, _, rfl, hn, (Frm.mk (Nat.le_refl _)).of HOB.out⟩
end Go.Proofs.YtdnheaafcbihbaaGreat
