/-
  Texts of the proof, merged by program: Svc.
-/
import Derived.Test.YtfhhnfpapgfnmaaZRes
set_option linter.unusedVariables false
set_option linter.unusedSectionVars false
set_option linter.unusedSimpArgs false
namespace Go.Proofs.Ytfhhnfpapgfnmaa
open Go Go.RowKit Go.Deep
open FFld (ints)
theorem unit_get (n i j : Nat) (hj : j < n) : (unitR n i)[j]?.getD 0 = if i = j then 1 else 0 := by
  unfold unitR
  by_cases e : i = j
  · subst e
    rw [if_pos rfl, List.getElem?_set_self (by simpa using hj)]
    rfl
  · rw [if_neg e, List.getElem?_set_ne e, List.getElem?_replicate]
    split <;> rfl
theorem sop_unit {D : FFld.FD} (hk : FFld.PK D.p D.k D.m) {bl : List Nat} (hb : ∀ a ∈ bl, a < D.p ^ D.k) {n i : Nat} (hi : i < n) : ∀ j, j ≤ n → sopF D (unitR n i) bl j = if i < j then bl[i]?.getD 0 else 0
  | 0, _ => rfl
  | j + 1, hj => by
    have hbj := FFld.el_of hk hb j
    simp only [sopF]
    rw [sop_unit hk hb hi j (by omega), unit_get n i j (by omega)]
    by_cases e : i = j
    · subst e
      rw [if_pos rfl, if_neg (Nat.lt_irrefl _), if_pos (Nat.lt_succ_self _), FFld.pmul_comm hk _ _ hk.one_lt hbj, FFld.pmul_by_one hk _ hbj, FFld.padd_comm hk, FFld.padd_zero hk _ hbj]
    · rw [if_neg e, FFld.pmul_comm hk _ _ (Nat.pow_pos hk.p0) hbj, FFld.pmul_zero_right hk]
      by_cases h1 : i < j
      · rw [if_pos h1, if_pos (by omega), FFld.padd_zero hk _ (FFld.el_of hk hb i)]
      · rw [if_neg h1, if_neg (by omega), FFld.padd_zero hk _ (Nat.pow_pos hk.p0)]
theorem idM_row (n : Nat) {i : Nat} (hi : i < n) : FFld.rowAt (idM n) i = unitR n i := by
  unfold FFld.rowAt idM
  rw [List.getElem?_map, List.getElem?_range hi]
  rfl
theorem piv_none {A : List (List Nat)} {c : Nat} : ∀ f r, (∀ k, r ≤ k → k < r + f → FFld.cellAt A k c = 0) → FFld.piv A c f r = r + f
  | 0, r, _ => rfl
  | f + 1, r, h => by
    simp only [FFld.piv]
    rw [if_pos (h r (Nat.le_refl _) (by omega)), piv_none f (r + 1) (fun k h1 h2 => h k (by omega) (by omega))]
    omega
def colL (rows : List (List Nat)) (n c : Nat) : List Nat := (List.range n).map (fun i => FFld.cellAt rows i c)
theorem colL_get (rows : List (List Nat)) {n c i : Nat} (hi : i < n) : (colL rows n c)[i]?.getD 0 = FFld.cellAt rows i c := by
  unfold colL
  rw [List.getElem?_map, List.getElem?_range hi]
  rfl
theorem colS_sop (D : FFld.FD) (rows : List (List Nat)) (ul : List Nat) (n c : Nat) : ∀ i, i ≤ n → colS D rows ul c i = sopF D ul (colL rows n c) i
  | 0, _ => rfl
  | i + 1, hi => by
    simp only [colS, sopF]
    rw [colS_sop D rows ul n c i (by omega), colL_get rows (by omega)]
section
variable {D : FFld.FD} (hD : D.Ok) {rows : List (List Nat)} {bl : List Nat} {wd n : Nat} (hw : FFld.Wfm D wd rows) (hN : rows.length = n) (hb : ∀ a ∈ bl, a < D.p ^ D.k)
include hD hw hN hb
/-- What the program calls a denial denies. -/
theorem denial {i : Nat} (h1 : (FFld.elimF D hD.pre.pk ⟨rows, idM n, []⟩ wd).cols.length ≤ i) (h2 : i < n) (h3 : sopV D (FFld.elimF D hD.pre.pk ⟨rows, idM n, []⟩ wd) bl i ≠ 0) :
    dnB D rows (FFld.rowAt (FFld.elimF D hD.pre.pk ⟨rows, idM n, []⟩ wd).R i) bl wd n = true := by
  have hk := hD.pre.pk
  have ho := eok_start hk hw hN
  have hoe := ho.elim hk wd
  have hec := FFld.Ecf.elim hD (s := ⟨rows, idM n, []⟩) rfl ho wd (Nat.le_refl _)
  have hlen : (FFld.rowAt (FFld.elimF D hD.pre.pk ⟨rows, idM n, []⟩ wd).R i).length = n := (hoe.wr.row (i := i) (by rw [hoe.lr]; exact h2)).1
  unfold dnB
  rw [decide_eq_true_eq]
  refine ⟨fun c hc => ?_, ?_⟩
  · have hcl : ∀ a ∈ colL rows n c, a < D.p ^ D.k := fun a ha => by
      obtain ⟨k, _, rfl⟩ := List.mem_map.1 ha
      exact hw.cell hk k c
    have ht : FFld.Trk D n n c (colL rows n c) rows (idM n) := fun k hkn => by
      rw [idM_row n hkn, sop_unit hk hcl hkn n (Nat.le_refl _), if_pos hkn, colL_get rows hkn]
    have := FFld.Trk.elim hk ho ht hc hcl wd i h2
    rw [colS_sop D rows _ n c n (Nat.le_refl _), ← this]
    exact hec.zero i h1 h2 c hc
  · unfold sopV at h3
    rw [hlen] at h3
    exact h3
/-- The program's solution and the reference's. -/
theorem solve_link (hn : n ≠ 0) (hbl : bl.length = n) :
    ((∀ j, (FFld.elimF D hD.pre.pk ⟨rows, idM n, []⟩ wd).cols.length ≤ j → j < n → sopV D (FFld.elimF D hD.pre.pk ⟨rows, idM n, []⟩ wd) bl j = 0) →
      (FFld.elimF D hD.pre.pk ⟨wideM rows bl n, List.replicate n [], []⟩ (wd + 1)).cols = (FFld.elimF D hD.pre.pk ⟨rows, idM n, []⟩ wd).cols ∧
      solW (FFld.elimF D hD.pre.pk ⟨wideM rows bl n, List.replicate n [], []⟩ (wd + 1)) wd (FFld.elimF D hD.pre.pk ⟨rows, idM n, []⟩ wd).cols.length = solF D (FFld.elimF D hD.pre.pk ⟨rows, idM n, []⟩ wd) bl wd (FFld.elimF D hD.pre.pk ⟨rows, idM n, []⟩ wd).cols.length) ∧
    (∀ i, (FFld.elimF D hD.pre.pk ⟨rows, idM n, []⟩ wd).cols.length ≤ i → i < n → sopV D (FFld.elimF D hD.pre.pk ⟨rows, idM n, []⟩ wd) bl i ≠ 0 →
      (FFld.elimF D hD.pre.pk ⟨wideM rows bl n, List.replicate n [], []⟩ (wd + 1)).cols = (FFld.elimF D hD.pre.pk ⟨rows, idM n, []⟩ wd).cols ++ [wd]) := by
  have hk := hD.pre.pk
  have ho := eok_start hk hw hN
  have how : FFld.EOk D (wd + 1) n n ⟨wideM rows bl n, idM n, []⟩ := eok_start hk (wide_wf hk hw hN hb) (wide_len _ _ _)
  have htr : FFld.Tru wd ⟨rows, idM n, []⟩ ⟨wideM rows bl n, idM n, []⟩ := ⟨rfl, rfl, by rw [wide_len]; exact hN.symm, fun i => by
    show FFld.rowAt rows i = (FFld.rowAt (wideM rows bl n) i).take wd
    by_cases hi : i < n
    · rw [wide_row rows bl hi]
      unfold wideR
      have := (hw.row (i := i) (by omega)).1
      rw [List.take_append_of_le_length (by omega), List.take_of_length_le (by omega)]
    · unfold FFld.rowAt
      rw [List.getElem?_eq_none (by omega), List.getElem?_eq_none (by rw [wide_len]; omega)]
      exact List.take_nil.symm⟩
  have htw := FFld.Tru.elim hk (Nat.le_succ wd) htr how wd (Nat.le_refl _)
  have hoe := ho.elim hk wd
  have hte := how.elim hk wd
  have hrec := FFld.elim_rec hk (s := ⟨wideM rows bl n, List.replicate n [], []⟩) (s' := ⟨wideM rows bl n, idM n, []⟩) rfl rfl (wd + 1)
  have htk : FFld.Trk D n n wd bl (wideM rows bl n) (idM n) := fun i hi => by
    rw [idM_row n hi, sop_unit hk hb hi n (Nat.le_refl _), if_pos hi]
    unfold FFld.cellAt
    rw [wide_row rows bl hi]
    unfold wideR
    have := (hw.row (i := i) (by omega)).1
    rw [List.getElem?_append_right (by omega), this, Nat.sub_self]
    rfl
  have hcell := FFld.Trk.elim hk how htk (Nat.lt_succ_self _) hb wd
  have hval : ∀ i, i < n → FFld.cellAt (FFld.elimF D hk ⟨wideM rows bl n, idM n, []⟩ wd).A i wd = sopV D (FFld.elimF D hk ⟨rows, idM n, []⟩ wd) bl i := fun i hi => by
    rw [hcell i hi, htw.rcd]
    unfold sopV
    rw [(hoe.wr.row (i := i) (by rw [hoe.lr]; exact hi)).1]
  rw [hrec.2]
  have hs1 : FFld.elimF D hk ⟨wideM rows bl n, idM n, []⟩ (wd + 1) = FFld.stepF D hk wd (FFld.elimF D hk ⟨wideM rows bl n, idM n, []⟩ wd) := rfl
  rw [hs1] at hrec ⊢
  generalize FFld.elimF D hk ⟨wideM rows bl n, idM n, []⟩ wd = t at *
  generalize FFld.elimF D hk ⟨rows, idM n, []⟩ wd = s at *
  generalize FFld.elimF D hk ⟨wideM rows bl n, List.replicate n [], []⟩ (wd + 1) = s' at *
  have hcl := hte.cl
  have hla := hte.la
  have hcs : t.cols.length = s.cols.length := by rw [htw.cols]
  refine ⟨fun hz => ?_, fun i h1 h2 h3 => ?_⟩
  · have hp : FFld.piv t.A wd (t.A.length - t.cols.length) t.cols.length = t.A.length := by
      rw [piv_none _ _ (fun k a1 a2 => by rw [hval k (by omega)]; exact hz k (by omega) (by omega))]
      omega
    have hst := FFld.stepF_none hk wd hp rfl
    rw [hst] at hrec ⊢
    refine ⟨htw.cols, ?_⟩
    have : ∀ i, i ≤ s.cols.length → solW s' wd i = solF D s bl wd i := fun i => by
      induction i with
      | zero => intro _; rfl
      | succ i ih =>
        intro hi
        simp only [solW, solF]
        rw [ih (by omega), hrec.1, hrec.2, htw.cols, hval i (by omega)]
    exact this _ (Nat.le_refl _)
  · have hp : FFld.piv t.A wd (t.A.length - t.cols.length) t.cols.length ≠ t.A.length := fun e => by
      have := FFld.piv_zero (A := t.A) (c := wd) (t.A.length - t.cols.length) t.cols.length (by omega) i (by omega) (by omega)
      rw [hval i h2] at this
      exact h3 this
    unfold FFld.stepF
    simp only
    rw [if_neg hp]
    simp only
    rw [htw.cols]
end
end Go.Proofs.Ytfhhnfpapgfnmaa
