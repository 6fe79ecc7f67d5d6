/-
  Texts of the proof, merged by program: Svb.
-/
import Derived.Test.YtfhhnfpapgfnmaaZSva
set_option linter.unusedVariables false
set_option linter.unusedSimpArgs false
namespace Go.Proofs.Ytfhhnfpapgfnmaa
namespace FFld
theorem ext_getD {l m : List Nat} (h : l.length = m.length) (he : ∀ i, i < l.length → l[i]?.getD 0 = m[i]?.getD 0) : l = m := by
  apply List.ext_getElem h
  intro i h1 h2
  have := he i h1
  rw [List.getElem?_eq_getElem h1, List.getElem?_eq_getElem h2] at this
  exact this
theorem addm_get {D : FD} {a b : List Nat} (t : Nat) (h : a.length = b.length) {i : Nat} (hi : i < a.length) : (addm D a 0 b t)[i]?.getD 0 = padd D.p D.k (a[i]?.getD 0) (pmul D.p D.k D.m (b[i]?.getD 0) D.k t) := by
  unfold addm
  have := addmF_at (D := D) a 0 b t b.length i (by omega) (by omega)
  rw [Nat.zero_add] at this
  exact this
theorem take_getD {l : List Nat} {wd i : Nat} (hi : i < wd) : (l.take wd)[i]?.getD 0 = l[i]?.getD 0 := by rw [List.getElem?_take, if_pos hi]
theorem addm_take {D : FD} {a b : List Nat} {wd : Nat} (t : Nat) (h : a.length = b.length) (hw : wd ≤ a.length) : (addm D a 0 b t).take wd = addm D (a.take wd) 0 (b.take wd) t := by
  have hl : (a.take wd).length = wd := by rw [List.length_take]; omega
  have hl2 : (b.take wd).length = wd := by rw [List.length_take]; omega
  apply ext_getD
  · rw [List.length_take, addm_len, addm_len, hl]; omega
  · intro i hi
    rw [List.length_take, addm_len] at hi
    rw [take_getD (by omega), addm_get t h (by omega), addm_get t (by rw [hl, hl2]) (by rw [hl]; omega), take_getD (by omega), take_getD (by omega)]
theorem rowMul_take {D : FD} (l : List Nat) (t wd : Nat) : (rowMul D l t).take wd = rowMul D (l.take wd) t := by simp [rowMul]
/-- The second elimination is the first one with columns more at its end. -/
structure Tru (wd : Nat) (s s' : ESt) : Prop where
  cols : s'.cols = s.cols
  rcd : s'.R = s.R
  len : s'.A.length = s.A.length
  row : ∀ i, rowAt s.A i = (rowAt s'.A i).take wd
theorem tru_cell {wd : Nat} {A A' : List (List Nat)} (h : ∀ i, rowAt A i = (rowAt A' i).take wd) {c : Nat} (hc : c < wd) (i : Nat) : cellAt A i c = cellAt A' i c := by
  unfold cellAt
  rw [h i, take_getD hc]
theorem tru_piv {wd : Nat} {A A' : List (List Nat)} (h : ∀ i, rowAt A i = (rowAt A' i).take wd) {c : Nat} (hc : c < wd) : ∀ f r, piv A' c f r = piv A c f r
  | 0, _ => rfl
  | f + 1, r => by
    simp only [piv]
    rw [← tru_cell h hc, tru_piv h hc f (r + 1)]
theorem tru_subs {D : FD} (hk : PK D.p D.k D.m) {wd W N : Nat} (hwd : wd ≤ W) {A A' R : List (List Nat)} (h : ∀ i, rowAt A i = (rowAt A' i).take wd) (hl : A'.length = A.length) (hN : A.length = N) (wa' : Wfm D W A') {n : Nat} (wr : Wfm D n R) {top c : Nat} (hc : c < wd) (ht : top < N) : ∀ i, i ≤ N →
    (∀ k, rowAt (subsF D top c (A, R) i).1 k = (rowAt (subsF D top c (A', R) i).1 k).take wd) ∧ (subsF D top c (A', R) i).2 = (subsF D top c (A, R) i).2
  | 0, _ => ⟨h, rfl⟩
  | i + 1, hi => by
    obtain ⟨h1, h2⟩ := tru_subs hk hwd h hl hN wa' wr hc ht i (by omega)
    have l1 := subsF_len D top c (A, R) i
    have l2 := subsF_len D top c (A', R) i
    have w2 := (subsF_wf hk top c (s := (A', R)) wa' wr i).1
    simp only [subsF]
    split
    · exact ⟨h1, h2⟩
    · have hce := tru_cell h1 hc i
      simp only
      rw [h2, ← hce]
      refine ⟨fun k => ?_, rfl⟩
      unfold subAt
      by_cases e : i = k
      · subst e
        rw [rowAt_put (by rw [l1.1]; simp only; omega), rowAt_put (by rw [l2.1]; simp only; omega), addm_take _ (by rw [(w2.row (i := i) (by rw [l2.1]; simp only; omega)).1, (w2.row (i := top) (by rw [l2.1]; simp only; omega)).1]) (by rw [(w2.row (i := i) (by rw [l2.1]; simp only; omega)).1]; exact hwd), h1 i, h1 top]
      · rw [rowAt_put_ne e, rowAt_put_ne e]
        exact h1 k
theorem Tru.step {D : FD} (hk : PK D.p D.k D.m) {wd W N n : Nat} (hwd : wd ≤ W) {s s' : ESt} (h : Tru wd s s') (ho' : EOk D W n N s') {c : Nat} (hc : c < wd) : Tru wd (stepF D hk c s) (stepF D hk c s') := by
  have hp := piv_le s'.A c (s'.A.length - s'.cols.length) s'.cols.length
  have hla := ho'.la
  have hlr := ho'.lr
  have hcl := ho'.cl
  have hpe := tru_piv h.row hc (s'.A.length - s'.cols.length) s'.cols.length
  unfold stepF
  simp only
  rw [← h.cols, ← h.rcd, ← h.len, ← hpe]
  split
  · exact h
  · rename_i hne
    have htop : s'.cols.length < N := by omega
    have hrow : piv s'.A c (s'.A.length - s'.cols.length) s'.cols.length < N := by omega
    have hAl : s.A.length = N := by rw [← h.len]; exact hla
    generalize piv s'.A c (s'.A.length - s'.cols.length) s'.cols.length = row at *
    have r1 : ∀ k, rowAt (exch [] s.A s'.cols.length row) k = (rowAt (exch [] s'.A s'.cols.length row) k).take wd := fun k => by
      rw [rowAt_ex (by omega) (by omega), rowAt_ex (by omega) (by omega)]
      exact h.row _
    have l1 : (exch [] s.A s'.cols.length row).length = N := by rw [exch_len]; exact hAl
    have l2 : (exch [] s'.A s'.cols.length row).length = N := by rw [exch_len]; exact hla
    have w2 := ho'.wa.exch (i := s'.cols.length) (j := row) (by omega) (by omega)
    have wr := ho'.wr.exch (i := s'.cols.length) (j := row) (by omega) (by omega)
    generalize exch [] s.A s'.cols.length row = A1 at *
    generalize exch [] s'.A s'.cols.length row = A2 at *
    generalize exch [] s'.R s'.cols.length row = R2 at *
    rw [tru_cell r1 hc s'.cols.length]
    generalize ppow hk (cellAt A2 s'.cols.length c) (D.q - 2) = inv at *
    have r2 : ∀ k, rowAt (mulAt D A1 s'.cols.length inv) k = (rowAt (mulAt D A2 s'.cols.length inv) k).take wd := fun k => by
      unfold mulAt
      by_cases e : s'.cols.length = k
      · subst e
        rw [rowAt_put (by omega), rowAt_put (by omega), rowMul_take, r1]
      · rw [rowAt_put_ne e, rowAt_put_ne e]
        exact r1 k
    have r3 := tru_subs hk hwd r2 (by rw [mulAt_len, mulAt_len, l1, l2]) (N := N) (by rw [mulAt_len]; exact l1) (w2.mul hk _ _) (wr.mul hk s'.cols.length inv) hc htop N (Nat.le_refl _)
    rw [hla]
    have q1 := subsF_len D s'.cols.length c (mulAt D A1 s'.cols.length inv, mulAt D R2 s'.cols.length inv) N
    have q2 := subsF_len D s'.cols.length c (mulAt D A2 s'.cols.length inv, mulAt D R2 s'.cols.length inv) N
    exact ⟨rfl, r3.2, by rw [q1.1, q2.1, mulAt_len, mulAt_len, l1, l2], r3.1⟩
theorem Tru.elim {D : FD} (hk : PK D.p D.k D.m) {wd W N n : Nat} (hwd : wd ≤ W) {s s' : ESt} (h : Tru wd s s') (ho' : EOk D W n N s') : ∀ c, c ≤ wd → Tru wd (elimF D hk s c) (elimF D hk s' c)
  | 0, _ => h
  | c + 1, hc => (Tru.elim hk hwd h ho' c (by omega)).step hk hwd (ho'.elim hk c) (by omega)
/-- The cells behind the subtractions of the first i rows. -/
theorem cell_subs {D : FD} (hk : PK D.p D.k D.m) {W N n : Nat} {A R : List (List Nat)} (hN : A.length = N) (wa : Wfm D W A) (wr : Wfm D n R) {top c : Nat} (hc : c < W) (ht : top < N) : ∀ i, i ≤ N → ∀ k c', k < N → c' < W →
    cellAt (subsF D top c (A, R) i).1 k c' = if k < i ∧ k ≠ top then padd D.p D.k (cellAt A k c') (pmul D.p D.k D.m (cellAt A top c') D.k (negF D (cellAt A k c))) else cellAt A k c'
  | 0, _, k, c', _, _ => by rw [if_neg (by omega)]; rfl
  | i + 1, hi, k, c', hkN, hcW => by
    have ih := cell_subs hk hN wa wr hc ht i (by omega)
    have l1 := (subsF_len D top c (A, R) i).1
    have w1 := (subsF_wf hk top c (s := (A, R)) wa wr i).1
    simp only [subsF]
    split
    · rename_i e
      rw [ih k c' hkN hcW]
      by_cases h1 : k < i ∧ k ≠ top
      · rw [if_pos h1, if_pos ⟨by omega, h1.2⟩]
      · rw [if_neg h1, if_neg (fun h2 => h1 ⟨by omega, h2.2⟩)]
    · rename_i e
      have et := ih top c' ht hcW
      rw [if_neg (fun h => h.2 rfl)] at et
      simp only
      rw [cell_sub w1 (by rw [l1]; simp only; omega) (by rw [l1]; simp only; omega) _ k hcW]
      by_cases h1 : k = i
      · subst h1
        have e1 := ih k c' hkN hcW
        have e2 := ih k c hkN hc
        rw [if_neg (by omega)] at e1 e2
        rw [if_pos rfl, if_pos ⟨by omega, e⟩, e1, e2, et]
      · rw [if_neg h1, ih k c' hkN hcW]
        by_cases h2 : k < i ∧ k ≠ top
        · rw [if_pos h2, if_pos ⟨by omega, h2.2⟩]
        · rw [if_neg h2, if_neg (fun h3 => h2 ⟨by omega, h3.2⟩)]
theorem piv_found {A : List (List Nat)} {c : Nat} : ∀ f r, piv A c f r < r + f → cellAt A (piv A c f r) c ≠ 0
  | 0, r, h => by simp [piv] at h
  | f + 1, r, h => by
    simp only [piv] at h ⊢
    split at h
    · rename_i e
      rw [if_pos e]
      exact piv_found f (r + 1) (by omega)
    · rename_i e
      rw [if_neg e]
      exact e
theorem piv_zero {A : List (List Nat)} {c : Nat} : ∀ f r, piv A c f r = r + f → ∀ k, r ≤ k → k < r + f → cellAt A k c = 0
  | 0, r, _, k, h1, h2 => by omega
  | f + 1, r, h, k, h1, h2 => by
    simp only [piv] at h
    split at h
    · rename_i e
      by_cases e2 : k = r
      · rw [e2]; exact e
      · exact piv_zero f (r + 1) (by omega) k (by omega) (by omega)
    · omega
/-- The first c columns are in echelon form. -/
structure Ecf (N c : Nat) (s : ESt) : Prop where
  low : ∀ i, i < s.cols.length → s.cols[i]?.getD 0 < c ∧ cellAt s.A i (s.cols[i]?.getD 0) = 1 ∧ ∀ c', c' < s.cols[i]?.getD 0 → cellAt s.A i c' = 0
  zero : ∀ i, s.cols.length ≤ i → i < N → ∀ c', c' < c → cellAt s.A i c' = 0
theorem Ecf.step {D : FD} (hD : D.Ok) {W N n : Nat} {s : ESt} {c : Nat} (h : Ecf N c s) (ho : EOk D W n N s) (hc : c < W) : Ecf N (c + 1) (stepF D hD.pre.pk c s) := by
  have hk := hD.pre.pk
  have hp := piv_le s.A c (s.A.length - s.cols.length) s.cols.length
  have hla := ho.la
  have hlr := ho.lr
  have hcl := ho.cl
  have hfd := piv_found (A := s.A) (c := c) (s.A.length - s.cols.length) s.cols.length
  have hzr := piv_zero (A := s.A) (c := c) (s.A.length - s.cols.length) s.cols.length
  unfold stepF
  simp only
  split
  · rename_i he
    refine ⟨fun i hi => ?_, fun i h1 h2 c' hc' => ?_⟩
    · obtain ⟨a1, a2, a3⟩ := h.low i hi
      exact ⟨by omega, a2, a3⟩
    · by_cases e : c' = c
      · rw [e]; exact hzr (by omega) i h1 (by omega)
      · exact h.zero i h1 h2 c' (by omega)
  · rename_i hne
    have htop : s.cols.length < N := by omega
    have hrow : piv s.A c (s.A.length - s.cols.length) s.cols.length < N := by omega
    have hge := hp.1
    have hx0 := hfd (by omega)
    clear hfd hzr
    generalize piv s.A c (s.A.length - s.cols.length) s.cols.length = row at *
    generalize hT : s.cols.length = top at *
    have c1 : ∀ k c', cellAt (exch [] s.A top row) k c' = cellAt s.A (swapN top row k) c' := fun k c' => cell_exch (by omega) (by omega) k c'
    have la1 : (exch [] s.A top row).length = N := by rw [exch_len]; exact hla
    have w1 := ho.wa.exch (i := top) (j := row) (by omega) (by omega)
    have wr1 := ho.wr.exch (i := top) (j := row) (by omega) (by omega)
    have hxe : cellAt (exch [] s.A top row) top c = cellAt s.A row c := by
      rw [c1]
      congr 1
      unfold swapN
      by_cases e : top = row
      · rw [if_pos e]; exact e
      · rw [if_neg e, if_pos rfl]
    rw [← hxe] at hx0
    have hz1 : ∀ k, top ≤ k → k < N → ∀ c', c' < c → cellAt (exch [] s.A top row) k c' = 0 := fun k h1 h2 c' hc' => by
      rw [c1]
      refine h.zero _ ?_ (swapN_lt htop hrow h2) c' hc'
      unfold swapN
      split
      · omega
      · split <;> omega
    have hl1 : ∀ k, k < top → ∀ c', cellAt (exch [] s.A top row) k c' = cellAt s.A k c' := fun k h1 c' => by
      rw [c1]
      congr 1
      unfold swapN
      rw [if_neg (by omega), if_neg (by omega)]
    generalize exch [] s.A top row = A1 at *
    generalize exch [] s.R top row = R1 at *
    have hxq := w1.cell hk top c
    have hix := hD.div_mul (a := 1) (b := cellAt A1 top c) hk.one_lt hxq hx0
    rw [pmul_comm hk _ _ hk.one_lt hxq, pmul_by_one hk _ hxq] at hix
    generalize hinv : ppow hk (cellAt A1 top c) (D.q - 2) = inv at *
    have c2 := fun k c' (hc' : c' < W) => cell_mul w1 (i := top) (by omega) inv k hc'
    have la2 : (mulAt D A1 top inv).length = N := by rw [mulAt_len]; exact la1
    have w2 := w1.mul hk top inv
    have wr2 := wr1.mul hk top inv
    have ht2 : cellAt (mulAt D A1 top inv) top c = 1 := by rw [c2 top c hc, if_pos rfl]; exact hix
    have hz2 : ∀ k, top ≤ k → k < N → ∀ c', c' < c → cellAt (mulAt D A1 top inv) k c' = 0 := fun k h1 h2 c' hc' => by
      rw [c2 k c' (by omega)]
      split
      · rw [hz1 top (Nat.le_refl _) htop c' hc', pmul_comm hk _ _ (Nat.pow_pos hk.p0) (by rw [← hinv]; exact ppow_lt hk _ _), pmul_zero_right hk]
      · exact hz1 k h1 h2 c' hc'
    have hl2 : ∀ k, k < top → ∀ c', c' < W → cellAt (mulAt D A1 top inv) k c' = cellAt s.A k c' := fun k h1 c' hc' => by
      rw [c2 k c' hc', if_neg (by omega)]
      exact hl1 k h1 c'
    generalize mulAt D A1 top inv = A2 at *
    generalize mulAt D R1 top inv = R2 at *
    have c3 := cell_subs hk la2 w2 wr2 hc htop N (Nat.le_refl _)
    have hzz : ∀ t, t < D.p ^ D.k → pmul D.p D.k D.m 0 D.k t = 0 := fun t ht => by rw [pmul_comm hk _ _ (Nat.pow_pos hk.p0) ht, pmul_zero_right hk]
    have old : ∀ k, k < N → ∀ c', c' < c → cellAt (subsF D top c (A2, R2) N).1 k c' = cellAt A2 k c' := fun k h1 c' hc' => by
      rw [c3 k c' h1 (by omega)]
      split
      · rw [hz2 top (Nat.le_refl _) htop c' hc', hzz (negF D (cellAt A2 k c)) (pscl_lt hk _ _), padd_zero hk _ (w2.cell hk k c')]
      · rfl
    rw [hla]
    refine ⟨fun i hi => ?_, fun i h1 h2 c' hc' => ?_⟩
    · simp only [List.length_append, List.length_singleton] at hi
      by_cases e : i = top
      · subst e
        have ec : (s.cols ++ [c])[s.cols.length]?.getD 0 = c := by simp
        rw [← hT] at *
        rw [ec]
        refine ⟨Nat.lt_succ_self _, ?_, fun c' hc' => ?_⟩
        · rw [c3 _ c htop hc, if_neg (fun h => h.2 rfl)]; exact ht2
        · rw [old _ htop c' hc']; exact hz2 _ (Nat.le_refl _) htop c' hc'
      · have hi' : i < s.cols.length := by omega
        obtain ⟨a1, a2, a3⟩ := h.low i (by omega)
        have ec : (s.cols ++ [c])[i]?.getD 0 = s.cols[i]?.getD 0 := by rw [List.getElem?_append_left hi']
        rw [ec]
        refine ⟨by omega, ?_, fun c' hc' => ?_⟩
        · rw [old i (by omega) _ a1, hl2 i (by omega) _ (by omega)]; exact a2
        · rw [old i (by omega) _ (by omega), hl2 i (by omega) _ (by omega)]; exact a3 c' hc'
    · simp only [List.length_append, List.length_singleton] at h1
      by_cases e : c' = c
      · subst e
        rw [c3 i c' h2 hc, if_pos ⟨h2, by omega⟩, ht2, pmul_comm hk 1 (negF D (cellAt A2 i c')) hk.one_lt (pscl_lt hk _ _), pmul_by_one hk (negF D (cellAt A2 i c')) (pscl_lt hk _ _)]
        exact padd_neg hk _
      · rw [old i h2 c' (by omega)]
        exact hz2 i (by omega) h2 c' (by omega)
theorem Ecf.elim {D : FD} (hD : D.Ok) {W N n : Nat} {s : ESt} (h0 : s.cols = []) (ho : EOk D W n N s) : ∀ c, c ≤ W → Ecf N c (elimF D hD.pre.pk s c)
  | 0, _ => ⟨fun i hi => by simp only [elimF] at hi; rw [h0] at hi; simp at hi, fun _ _ _ _ h => by omega⟩
  | c + 1, hc => (Ecf.elim hD h0 ho c (by omega)).step hD (ho.elim hD.pre.pk c) (by omega)
end FFld
end Go.Proofs.Ytfhhnfpapgfnmaa
