/-
  Texts of the proof, merged by program: Sva.
-/
import Derived.Test.YtfhhnfpapgfnmaaZRea
import Derived.Test.YtfhhnfpapgfnmaaDna
import Derived.Test.YtfhhnfpapgfnmaaZ19
set_option linter.unusedVariables false
set_option linter.unusedSimpArgs false
namespace Go.Proofs.Ytfhhnfpapgfnmaa
namespace FFld
/-- Cells of a matrix whose rows were exchanged, multiplied, taken off one another. -/
theorem cell_exch {A : List (List Nat)} {i j : Nat} (hi : i < A.length) (hj : j < A.length) (k c : Nat) : cellAt (exch [] A i j) k c = cellAt A (swapN i j k) c := by
  unfold cellAt
  rw [rowAt_ex hi hj]
theorem cell_mul {D : FD} {n : Nat} {A : List (List Nat)} (hw : Wfm D n A) {i : Nat} (hi : i < A.length) (t k : Nat) {c : Nat} (hc : c < n) : cellAt (mulAt D A i t) k c = if k = i then pmul D.p D.k D.m (cellAt A i c) D.k t else cellAt A k c := by
  unfold mulAt cellAt
  by_cases e : k = i
  · subst e
    rw [if_pos rfl, rowAt_put hi, rowMul_get _ _ _ _ (by rw [(hw.row hi).1]; exact hc)]
  · rw [if_neg e, rowAt_put_ne (fun h => e h.symm)]
theorem cell_sub {D : FD} {n : Nat} {A : List (List Nat)} (hw : Wfm D n A) {i j : Nat} (hi : i < A.length) (hj : j < A.length) (t k : Nat) {c : Nat} (hc : c < n) : cellAt (subAt D A i j t) k c = if k = i then padd D.p D.k (cellAt A i c) (pmul D.p D.k D.m (cellAt A j c) D.k (negF D t)) else cellAt A k c := by
  unfold subAt cellAt
  by_cases e : k = i
  · subst e
    rw [if_pos rfl, rowAt_put hi]
    unfold addm
    have := addmF_at (D := D) (rowAt A k) 0 (rowAt A j) (negF D t) (rowAt A j).length c (by rw [(hw.row hj).1]; exact hc) (by rw [(hw.row hi).1, (hw.row hj).1]; omega)
    rw [Nat.zero_add] at this
    exact this
  · rw [if_neg e, rowAt_put_ne (fun h => e h.symm)]
section
variable {D : FD} (hk : PK D.p D.k D.m)
include hk
theorem mul_swap {a b c : Nat} (ha : a < D.p ^ D.k) (hb : b < D.p ^ D.k) (hc : c < D.p ^ D.k) : pmul D.p D.k D.m (pmul D.p D.k D.m a D.k c) D.k b = pmul D.p D.k D.m (pmul D.p D.k D.m a D.k b) D.k c := by
  rw [pmul_assoc hk _ _ _ ha hc hb, pmul_comm hk _ _ hc hb, ← pmul_assoc hk _ _ _ ha hb hc]
theorem el_of {l : List Nat} (h : ∀ a ∈ l, a < D.p ^ D.k) (i : Nat) : l[i]?.getD 0 < D.p ^ D.k := getD_lt (Nat.pow_pos hk.p0) h i
theorem sop_mul {l bl : List Nat} {t : Nat} (hl : ∀ a ∈ l, a < D.p ^ D.k) (hb : ∀ a ∈ bl, a < D.p ^ D.k) (ht : t < D.p ^ D.k) : ∀ i, i ≤ l.length → sopF D (rowMul D l t) bl i = pmul D.p D.k D.m (sopF D l bl i) D.k t
  | 0, _ => by
    simp only [sopF]
    rw [pmul_comm hk _ _ (Nat.pow_pos hk.p0) ht, pmul_zero_right hk]
  | i + 1, hi => by
    simp only [sopF]
    rw [sop_mul hl hb ht i (by omega), pmul_add hk, rowMul_get _ _ _ _ (by omega), mul_swap hk (el_of hk hl i) (el_of hk hb i) ht]
theorem sop_sub {l q bl : List Nat} {t : Nat} (hl : ∀ a ∈ l, a < D.p ^ D.k) (hq : ∀ a ∈ q, a < D.p ^ D.k) (hb : ∀ a ∈ bl, a < D.p ^ D.k) (ht : t < D.p ^ D.k) (hlq : l.length = q.length) : ∀ i, i ≤ l.length → sopF D (addm D l 0 q t) bl i = padd D.p D.k (sopF D l bl i) (pmul D.p D.k D.m (sopF D q bl i) D.k t)
  | 0, _ => by
    simp only [sopF]
    rw [pmul_comm hk _ _ (Nat.pow_pos hk.p0) ht, pmul_zero_right hk, padd_zero hk _ (Nat.pow_pos hk.p0)]
  | i + 1, hi => by
    have e : (addm D l 0 q t)[i]?.getD 0 = padd D.p D.k (l[i]?.getD 0) (pmul D.p D.k D.m (q[i]?.getD 0) D.k t) := by
      unfold addm
      have := addmF_at (D := D) l 0 q t q.length i (by omega) (by omega)
      rw [Nat.zero_add] at this
      exact this
    simp only [sopF]
    rw [sop_sub hl hq hb ht hlq i (by omega), e, pmul_add hk, pmul_add hk, mul_swap hk (el_of hk hq i) (el_of hk hb i) ht]
    generalize sopF D l bl i = S
    generalize pmul D.p D.k D.m (sopF D q bl i) D.k t = T
    generalize pmul D.p D.k D.m (l[i]?.getD 0) D.k (bl[i]?.getD 0) = u
    generalize pmul D.p D.k D.m (pmul D.p D.k D.m (q[i]?.getD 0) D.k (bl[i]?.getD 0)) D.k t = v
    rw [padd_assoc hk, padd_assoc hk, ← padd_assoc hk T u v, padd_comm hk T u, padd_assoc hk u T v]
/-- The column c of A is the record times b. -/
def Trk (D : FD) (N n c : Nat) (bl : List Nat) (A R : List (List Nat)) : Prop := ∀ i, i < N → cellAt A i c = sopF D (rowAt R i) bl n
end
section
variable {D : FD} {N n W c : Nat} {bl : List Nat} {A R : List (List Nat)}
theorem Trk.exch (h : Trk D N n c bl A R) (ha : A.length = N) (hr : R.length = N) {i j : Nat} (hi : i < N) (hj : j < N) : Trk D N n c bl (exch [] A i j) (exch [] R i j) := fun k hkk => by
  rw [cell_exch (by omega) (by omega), rowAt_ex (by omega) (by omega)]
  exact h _ (swapN_lt hi hj hkk)
theorem Trk.mul (hk : PK D.p D.k D.m) (h : Trk D N n c bl A R) (ha : A.length = N) (hr : R.length = N) (wa : Wfm D W A) (wr : Wfm D n R) (hc : c < W) (hb : ∀ a ∈ bl, a < D.p ^ D.k) {i t : Nat} (hi : i < N) (ht : t < D.p ^ D.k) : Trk D N n c bl (mulAt D A i t) (mulAt D R i t) := fun k hkk => by
  rw [cell_mul wa (by omega) t k hc]
  by_cases e : k = i
  · subst e
    rw [if_pos rfl, h k hi]
    unfold mulAt
    rw [rowAt_put (by omega), sop_mul hk (rowAt_lt wr k) hb ht n (by rw [(wr.row (i := k) (by omega)).1]; exact Nat.le_refl _)]
  · rw [if_neg e, h k hkk]
    unfold mulAt
    rw [rowAt_put_ne (fun h => e h.symm)]
theorem Trk.sub (hk : PK D.p D.k D.m) (h : Trk D N n c bl A R) (ha : A.length = N) (hr : R.length = N) (wa : Wfm D W A) (wr : Wfm D n R) (hc : c < W) (hb : ∀ a ∈ bl, a < D.p ^ D.k) {i j t : Nat} (hi : i < N) (hj : j < N) : Trk D N n c bl (subAt D A i j t) (subAt D R i j t) := fun k hkk => by
  rw [cell_sub wa (by omega) (by omega) t k hc]
  by_cases e : k = i
  · subst e
    rw [if_pos rfl, h k hi, h j hj]
    unfold subAt
    rw [rowAt_put (by omega), sop_sub hk (t := negF D t) (rowAt_lt wr k) (rowAt_lt wr j) hb (pscl_lt hk _ _) (by rw [(wr.row (i := k) (by omega)).1, (wr.row (i := j) (by omega)).1]) n (by rw [(wr.row (i := k) (by omega)).1]; exact Nat.le_refl _)]
  · rw [if_neg e, h k hkk]
    unfold subAt
    rw [rowAt_put_ne (fun h => e h.symm)]
theorem Trk.subs (hk : PK D.p D.k D.m) (h : Trk D N n c bl A R) (ha : A.length = N) (hr : R.length = N) (wa : Wfm D W A) (wr : Wfm D n R) (hc : c < W) (hb : ∀ a ∈ bl, a < D.p ^ D.k) {top c0 : Nat} (ht : top < N) : ∀ i, i ≤ N → Trk D N n c bl (subsF D top c0 (A, R) i).1 (subsF D top c0 (A, R) i).2
  | 0, _ => h
  | i + 1, hi => by
    have ih := Trk.subs hk h ha hr wa wr hc hb ht (c0 := c0) i (by omega)
    have hl := subsF_len D top c0 (A, R) i
    have hw := subsF_wf hk top c0 (s := (A, R)) wa wr i
    simp only [subsF]
    split
    · exact ih
    · exact ih.sub hk (by rw [hl.1]; exact ha) (by rw [hl.2]; exact hr) hw.1 hw.2 hc hb (by omega) ht
theorem Trk.step (hk : PK D.p D.k D.m) {s : ESt} (ho : EOk D W n N s) (h : Trk D N n c bl s.A s.R) (hc : c < W) (hb : ∀ a ∈ bl, a < D.p ^ D.k) (c0 : Nat) : Trk D N n c bl (stepF D hk c0 s).A (stepF D hk c0 s).R := by
  have hp := piv_le s.A c0 (s.A.length - s.cols.length) s.cols.length
  have hla := ho.la
  have hlr := ho.lr
  have hcl := ho.cl
  unfold stepF
  simp only
  split
  · exact h
  · rename_i hne
    have htop : s.cols.length < N := by omega
    have hrow : piv s.A c0 (s.A.length - s.cols.length) s.cols.length < N := by omega
    generalize piv s.A c0 (s.A.length - s.cols.length) s.cols.length = row at *
    have h1 := h.exch hla hlr htop hrow
    have wa := ho.wa.exch (i := s.cols.length) (j := row) (by omega) (by omega)
    have wr := ho.wr.exch (i := s.cols.length) (j := row) (by omega) (by omega)
    have la : (FFld.exch [] s.A s.cols.length row).length = N := by rw [exch_len]; exact hla
    have lr : (FFld.exch [] s.R s.cols.length row).length = N := by rw [exch_len]; exact hlr
    generalize FFld.exch [] s.A s.cols.length row = A1 at *
    generalize FFld.exch [] s.R s.cols.length row = R1 at *
    have ht := ppow_lt hk (cellAt A1 s.cols.length c0) (D.q - 2)
    generalize ppow hk (cellAt A1 s.cols.length c0) (D.q - 2) = inv at *
    have h2 := h1.mul hk la lr wa wr hc hb htop ht
    rw [hla]
    exact h2.subs hk (by rw [mulAt_len]; exact la) (by rw [mulAt_len]; exact lr) (wa.mul hk _ _) (wr.mul hk _ _) hc hb htop N (Nat.le_refl _)
theorem Trk.elim (hk : PK D.p D.k D.m) {s : ESt} (ho : EOk D W n N s) (h : Trk D N n c bl s.A s.R) (hc : c < W) (hb : ∀ a ∈ bl, a < D.p ^ D.k) : ∀ c0, Trk D N n c bl (elimF D hk s c0).A (elimF D hk s c0).R
  | 0 => h
  | c0 + 1 => (Trk.elim hk ho h hc hb c0).step hk (ho.elim hk c0) hc hb c0
/-- The elimination does not look at the record. -/
theorem step_rec (hk : PK D.p D.k D.m) (c0 : Nat) {s s' : ESt} (ha : s.A = s'.A) (hc : s.cols = s'.cols) : (stepF D hk c0 s).A = (stepF D hk c0 s').A ∧ (stepF D hk c0 s).cols = (stepF D hk c0 s').cols := by
  unfold stepF
  simp only
  rw [ha, hc]
  split
  · exact ⟨ha, hc⟩
  · exact ⟨subsF_fst D _ _ _ _ _ _, rfl⟩
theorem elim_rec (hk : PK D.p D.k D.m) {s s' : ESt} (ha : s.A = s'.A) (hc : s.cols = s'.cols) : ∀ c0, (elimF D hk s c0).A = (elimF D hk s' c0).A ∧ (elimF D hk s c0).cols = (elimF D hk s' c0).cols
  | 0 => ⟨ha, hc⟩
  | c0 + 1 => step_rec hk c0 (elim_rec hk ha hc c0).1 (elim_rec hk ha hc c0).2
end
end FFld
end Go.Proofs.Ytfhhnfpapgfnmaa
