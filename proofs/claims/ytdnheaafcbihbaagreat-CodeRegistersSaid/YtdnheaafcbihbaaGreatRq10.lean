/-
  Texts of the proof, merged by program: Soa Lca Fmx Dna Sva Svb Lla Rta Lin Toe Rkp.
-/
import Derived.Test.YtdnheaafcbihbaaGreatRq9
set_option linter.unusedSimpArgs false
set_option linter.unusedVariables false
set_option maxHeartbeats 16000000
namespace Go.Proofs.YtdnheaafcbihbaaGreat
open Go Go.RowKit Go.Deep
open FFld (ints)
def SoRet (most : Int) (w : World) (e : Ending) (w' : World) : Prop := Below w.heap.size w w' /\ ∃ (D : FFld.FD) (b : Nat), D.Ok /\ ((D.q : Int) <= most \/ D.q <= 27) /\ w.heap.size <= b /\ FldB D w' b /\ e = .returned (.tuple #[.pointer (some ⟨b, 0, none⟩), rfv D.q D.p D.k D.m])
def smL : List Nat := [2, 3, 4, 5, 7, 8, 9, 11, 13, 16, 25, 27]
theorem Row.grown {E : TypeId} {K : IntKind} {w w' : World} {g k : Nat} {xs : List Int} (h : Row E K w g xs) (hg : w.grownBy w' (some k)) (hne : g ≠ k) : Row E K w' g xs := (hg.block _ h.lt (by simpa using hne)).trans h
theorem md_ok {D : FFld.FD} (h : D.Ok) : MdOk D.p D.k D.m := ⟨h.pre.mod1, fun hk => ⟨(h.pre.mod2 hk).1, (h.pre.mod2 hk).2.1⟩⟩
end Go.Proofs.YtdnheaafcbihbaaGreat
namespace Go.Proofs.YtdnheaafcbihbaaGreat
open Go Go.RowKit Go.Deep
open FFld (ints)
namespace FFld
theorem addmF_at {D : FD} (xs : List Nat) (s : Nat) (q : List Nat) (c : Nat) : ∀ (j i : Nat), i < j -> s + j <= xs.length -> (addmF D xs s q c j)[s + i]?.getD 0 = padd D.p D.k (xs[s + i]?.getD 0) (pmul D.p D.k D.m (q[i]?.getD 0) D.k c)
 | 0, i, h, _ => by omega
 | j + 1, i, h, hl => by
   simp only [addmF]
   by_cases e : i = j
   ·subst e
    rw [List.getElem?_set_self (by rw [addmF_len]; omega), addmF_old D xs s q c i (s + i) (.inr (Nat.le_refl _))]
    rfl
   ·rw [List.getElem?_set_ne (by omega)]
    exact addmF_at xs s q c j i (by omega) (by omega)
end FFld
def totF (D : FFld.FD) (rows : List (List Nat)) (ul : List Nat) (wd : Nat) : Nat -> List Nat
 | 0 => List.replicate wd 0
 | i + 1 => FFld.addm D (totF D rows ul wd i) 0 (FFld.rowAt rows i) (ul[i]?.getD 0)
def colS (D : FFld.FD) (rows : List (List Nat)) (ul : List Nat) (c : Nat) : Nat -> Nat
 | 0 => 0
 | i + 1 => FFld.padd D.p D.k (colS D rows ul c i) (FFld.pmul D.p D.k D.m (ul[i]?.getD 0) D.k (FFld.cellAt rows i c))
def dnB (D : FFld.FD) (rows : List (List Nat)) (ul bl : List Nat) (wd n : Nat) : Bool := decide ((∀ c, c < wd -> colS D rows ul c n = 0) /\ sopF D ul bl n ≠ 0)
theorem rows_cell {rows : List (List Nat)} {i : Nat} : (rows.map ints)[i]?.getD [] = ints (FFld.rowAt rows i) := by
 unfold FFld.rowAt
 rw [List.getElem?_map]
 cases rows[i]? <;> rfl
theorem rlen_wd {D : FFld.FD} {wd n : Nat} {rows : List (List Nat)} (hw : FFld.Wfm D wd rows) (hN : rows.length = n) (h0 : n = 0 -> wd = 0) : rlen (rows.map ints) 0 = wd := by
 by_cases hn : n = 0
 ·rw [h0 hn]
  exact rlen_zero (by rw [List.length_map]; omega)
 ·unfold rlen
  rw [rows_cell, FFld.ints_len]
  exact (hw.row (i := 0) (by omega)).1
end Go.Proofs.YtdnheaafcbihbaaGreat
namespace Go.Proofs.YtdnheaafcbihbaaGreat
namespace FFld
theorem cell_exch {A : List (List Nat)} {i j : Nat} (hi : i < A.length) (hj : j < A.length) (k c : Nat) : cellAt (exch [] A i j) k c = cellAt A (swapN i j k) c := by
 unfold cellAt
 rw [rowAt_ex hi hj]
theorem cell_mul {D : FD} {n : Nat} {A : List (List Nat)} (hw : Wfm D n A) {i : Nat} (hi : i < A.length) (t k : Nat) {c : Nat} (hc : c < n) : cellAt (mulAt D A i t) k c = if k = i then pmul D.p D.k D.m (cellAt A i c) D.k t else cellAt A k c := by
 unfold mulAt cellAt
 by_cases e : k = i
 ·subst e
  rw [if_pos rfl, rowAt_put hi, rowMul_get _ _ _ _ (by rw [(hw.row hi).1]; exact hc)]
 ·rw [if_neg e, rowAt_put_ne (fun h => e h.symm)]
theorem cell_sub {D : FD} {n : Nat} {A : List (List Nat)} (hw : Wfm D n A) {i j : Nat} (hi : i < A.length) (hj : j < A.length) (t k : Nat) {c : Nat} (hc : c < n) : cellAt (subAt D A i j t) k c = if k = i then padd D.p D.k (cellAt A i c) (pmul D.p D.k D.m (cellAt A j c) D.k (negF D t)) else cellAt A k c := by
 unfold subAt cellAt
 by_cases e : k = i
 ·subst e
  rw [if_pos rfl, rowAt_put hi]
  unfold addm
  have := addmF_at (D := D) (rowAt A k) 0 (rowAt A j) (negF D t) (rowAt A j).length c (by rw [(hw.row hj).1]; exact hc) (by rw [(hw.row hi).1, (hw.row hj).1]; omega)
  rw [Nat.zero_add] at this
  exact this
 ·rw [if_neg e, rowAt_put_ne (fun h => e h.symm)]
section
variable {D : FD} (hk : PK D.p D.k D.m)
include hk
theorem mul_swap {a b c : Nat} (ha : a < D.p ^ D.k) (hb : b < D.p ^ D.k) (hc : c < D.p ^ D.k) : pmul D.p D.k D.m (pmul D.p D.k D.m a D.k c) D.k b = pmul D.p D.k D.m (pmul D.p D.k D.m a D.k b) D.k c := by
 rw [pmul_assoc hk _ _ _ ha hc hb, pmul_comm hk _ _ hc hb, <- pmul_assoc hk _ _ _ ha hb hc]
def Trk (D : FD) (N n c : Nat) (bl : List Nat) (A R : List (List Nat)) : Prop := ∀ i, i < N -> cellAt A i c = sopF D (rowAt R i) bl n
end
section
variable {D : FD} {N n W c : Nat} {bl : List Nat} {A R : List (List Nat)}
end
end FFld
end Go.Proofs.YtdnheaafcbihbaaGreat
namespace Go.Proofs.YtdnheaafcbihbaaGreat
namespace FFld
theorem ext_getD {l m : List Nat} (h : l.length = m.length) (he : ∀ i, i < l.length -> l[i]?.getD 0 = m[i]?.getD 0) : l = m := by
 apply List.ext_getElem h
 intro i h1 h2
 have := he i h1
 rw [List.getElem?_eq_getElem h1, List.getElem?_eq_getElem h2] at this
 exact this
theorem take_getD {l : List Nat} {wd i : Nat} (hi : i < wd) : (l.take wd)[i]?.getD 0 = l[i]?.getD 0 := by rw [List.getElem?_take, if_pos hi]
structure Tru (wd : Nat) (s s' : ESt) : Prop where
 cols : s'.cols = s.cols
 rcd : s'.R = s.R
 len : s'.A.length = s.A.length
 row : ∀ i, rowAt s.A i = (rowAt s'.A i).take wd
theorem cell_subs {D : FD} (hk : PK D.p D.k D.m) {W N n : Nat} {A R : List (List Nat)} (hN : A.length = N) (wa : Wfm D W A) (wr : Wfm D n R) {top c : Nat} (hc : c < W) (ht : top < N) : ∀ i, i <= N -> ∀ k c', k < N -> c' < W ->
 cellAt (subsF D top c (A, R) i).1 k c' = if k < i /\ k ≠ top then padd D.p D.k (cellAt A k c') (pmul D.p D.k D.m (cellAt A top c') D.k (negF D (cellAt A k c))) else cellAt A k c'
 | 0, _, k, c', _, _ => by rw [if_neg (by omega)]; rfl
 | i + 1, hi, k, c', hkN, hcW => by
   have ih := cell_subs hk hN wa wr hc ht i (by omega)
   have l1 := (subsF_len D top c (A, R) i).1
   have w1 := (subsF_wf hk top c (s := (A, R)) wa wr i).1
   simp only [subsF]
   split
   ·rename_i e
    rw [ih k c' hkN hcW]
    by_cases h1 : k < i /\ k ≠ top
    ·rw [if_pos h1, if_pos ⟨by omega, h1.2⟩]
    ·rw [if_neg h1, if_neg (fun h2 => h1 ⟨by omega, h2.2⟩)]
   ·rename_i e
    have et := ih top c' ht hcW
    rw [if_neg (fun h => h.2 rfl)] at et
    simp only
    rw [cell_sub w1 (by rw [l1]; simp only; omega) (by rw [l1]; simp only; omega) _ k hcW]
    by_cases h1 : k = i
    ·subst h1
     have e1 := ih k c' hkN hcW
     have e2 := ih k c hkN hc
     rw [if_neg (by omega)] at e1 e2
     rw [if_pos rfl, if_pos ⟨by omega, e⟩, e1, e2, et]
    ·rw [if_neg h1, ih k c' hkN hcW]
     by_cases h2 : k < i /\ k ≠ top
     ·rw [if_pos h2, if_pos ⟨by omega, h2.2⟩]
     ·rw [if_neg h2, if_neg (fun h3 => h2 ⟨by omega, h3.2⟩)]
theorem piv_found {A : List (List Nat)} {c : Nat} : ∀ f r, piv A c f r < r + f -> cellAt A (piv A c f r) c ≠ 0
 | 0, r, h => by simp [piv] at h
 | f + 1, r, h => by
   simp only [piv] at h ⊢
   split at h
   ·rename_i e
    rw [if_pos e]
    exact piv_found f (r + 1) (by omega)
   ·rename_i e
    rw [if_neg e]
    exact e
theorem piv_zero {A : List (List Nat)} {c : Nat} : ∀ f r, piv A c f r = r + f -> ∀ k, r <= k -> k < r + f -> cellAt A k c = 0
 | 0, r, _, k, h1, h2 => by omega
 | f + 1, r, h, k, h1, h2 => by
   simp only [piv] at h
   split at h
   ·rename_i e
    by_cases e2 : k = r
    ·rw [e2]; exact e
    ·exact piv_zero f (r + 1) (by omega) k (by omega) (by omega)
   ·omega
structure Ecf (N c : Nat) (s : ESt) : Prop where
 low : ∀ i, i < s.cols.length -> s.cols[i]?.getD 0 < c /\ cellAt s.A i (s.cols[i]?.getD 0) = 1 /\ ∀ c', c' < s.cols[i]?.getD 0 -> cellAt s.A i c' = 0
 zero : ∀ i, s.cols.length <= i -> i < N -> ∀ c', c' < c -> cellAt s.A i c' = 0
theorem Ecf.step {D : FD} (hD : D.Ok) {W N n : Nat} {s : ESt} {c : Nat} (h : Ecf N c s) (ho : EOk D W n N s) (hc : c < W) : Ecf N (c + 1) (stepF D hD.pre.pk c s) := by
 have hk := hD.pre.pk
 have hp := piv_le s.A c (s.A.length - s.cols.length) s.cols.length
 have hla := ho.la
 have hlr := ho.lr
 have hcl := ho.cl
 have hfd := piv_found (A := s.A) (c := c) (s.A.length - s.cols.length) s.cols.length
 have hzr := piv_zero (A := s.A) (c := c) (s.A.length - s.cols.length) s.cols.length
 unfold stepF
 simp only
 split
 ·rename_i he
  refine ⟨fun i hi => ?_, fun i h1 h2 c' hc' => ?_⟩
  ·obtain ⟨a1, a2, a3⟩ := h.low i hi
   exact ⟨by omega, a2, a3⟩
  ·by_cases e : c' = c
   ·rw [e]; exact hzr (by omega) i h1 (by omega)
   ·exact h.zero i h1 h2 c' (by omega)
 ·rename_i hne
  have htop : s.cols.length < N := by omega
  have hrow : piv s.A c (s.A.length - s.cols.length) s.cols.length < N := by omega
  have hge := hp.1
  have hx0 := hfd (by omega)
  clear hfd hzr
  generalize piv s.A c (s.A.length - s.cols.length) s.cols.length = row at *
  generalize hT : s.cols.length = top at *
  have c1 : ∀ k c', cellAt (exch [] s.A top row) k c' = cellAt s.A (swapN top row k) c' := fun k c' => cell_exch (by omega) (by omega) k c'
  have la1 : (exch [] s.A top row).length = N := by rw [exch_len]; exact hla
  have w1 := ho.wa.exch (i := top) (j := row) (by omega) (by omega)
  have wr1 := ho.wr.exch (i := top) (j := row) (by omega) (by omega)
  have hxe : cellAt (exch [] s.A top row) top c = cellAt s.A row c := by
   rw [c1]
   congr 1
   unfold swapN
   by_cases e : top = row
   ·rw [if_pos e]; exact e
   ·rw [if_neg e, if_pos rfl]
  rw [<- hxe] at hx0
  have hz1 : ∀ k, top <= k -> k < N -> ∀ c', c' < c -> cellAt (exch [] s.A top row) k c' = 0 := fun k h1 h2 c' hc' => by
   rw [c1]
   refine h.zero _ ?_ (swapN_lt htop hrow h2) c' hc'
   unfold swapN
   split
   ·omega
   ·split <;> omega
  have hl1 : ∀ k, k < top -> ∀ c', cellAt (exch [] s.A top row) k c' = cellAt s.A k c' := fun k h1 c' => by
   rw [c1]
   congr 1
   unfold swapN
   rw [if_neg (by omega), if_neg (by omega)]
  generalize exch [] s.A top row = A1 at *
  generalize exch [] s.R top row = R1 at *
  have hxq := w1.cell hk top c
  have hix := hD.div_mul (a := 1) (b := cellAt A1 top c) hk.one_lt hxq hx0
  rw [pmul_comm hk _ _ hk.one_lt hxq, pmul_by_one hk _ hxq] at hix
  generalize hinv : ppow hk (cellAt A1 top c) (D.q - 2) = inv at *
  have c2 := fun k c' (hc' : c' < W) => cell_mul w1 (i := top) (by omega) inv k hc'
  have la2 : (mulAt D A1 top inv).length = N := by rw [mulAt_len]; exact la1
  have w2 := w1.mul hk top inv
  have wr2 := wr1.mul hk top inv
  have ht2 : cellAt (mulAt D A1 top inv) top c = 1 := by rw [c2 top c hc, if_pos rfl]; exact hix
  have hz2 : ∀ k, top <= k -> k < N -> ∀ c', c' < c -> cellAt (mulAt D A1 top inv) k c' = 0 := fun k h1 h2 c' hc' => by
   rw [c2 k c' (by omega)]
   split
   ·rw [hz1 top (Nat.le_refl _) htop c' hc', pmul_comm hk _ _ (Nat.pow_pos hk.p0) (by rw [<- hinv]; exact ppow_lt hk _ _), pmul_zero_right hk]
   ·exact hz1 k h1 h2 c' hc'
  have hl2 : ∀ k, k < top -> ∀ c', c' < W -> cellAt (mulAt D A1 top inv) k c' = cellAt s.A k c' := fun k h1 c' hc' => by
   rw [c2 k c' hc', if_neg (by omega)]
   exact hl1 k h1 c'
  generalize mulAt D A1 top inv = A2 at *
  generalize mulAt D R1 top inv = R2 at *
  have c3 := cell_subs hk la2 w2 wr2 hc htop N (Nat.le_refl _)
  have hzz : ∀ t, t < D.p ^ D.k -> pmul D.p D.k D.m 0 D.k t = 0 := fun t ht => by rw [pmul_comm hk _ _ (Nat.pow_pos hk.p0) ht, pmul_zero_right hk]
  have old : ∀ k, k < N -> ∀ c', c' < c -> cellAt (subsF D top c (A2, R2) N).1 k c' = cellAt A2 k c' := fun k h1 c' hc' => by
   rw [c3 k c' h1 (by omega)]
   split
   ·rw [hz2 top (Nat.le_refl _) htop c' hc', hzz (negF D (cellAt A2 k c)) (pscl_lt hk _ _), padd_zero hk _ (w2.cell hk k c')]
   ·rfl
  rw [hla]
  refine ⟨fun i hi => ?_, fun i h1 h2 c' hc' => ?_⟩
  ·simp only [List.length_append, List.length_singleton] at hi
   by_cases e : i = top
   ·subst e
    have ec : (s.cols ++ [c])[s.cols.length]?.getD 0 = c := by simp
    rw [<- hT] at *
    rw [ec]
    refine ⟨Nat.lt_succ_self _, ?_, fun c' hc' => ?_⟩
    ·rw [c3 _ c htop hc, if_neg (fun h => h.2 rfl)]; exact ht2
    ·rw [old _ htop c' hc']; exact hz2 _ (Nat.le_refl _) htop c' hc'
   ·have hi' : i < s.cols.length := by omega
    obtain ⟨a1, a2, a3⟩ := h.low i (by omega)
    have ec : (s.cols ++ [c])[i]?.getD 0 = s.cols[i]?.getD 0 := by rw [List.getElem?_append_left hi']
    rw [ec]
    refine ⟨by omega, ?_, fun c' hc' => ?_⟩
    ·rw [old i (by omega) _ a1, hl2 i (by omega) _ (by omega)]; exact a2
    ·rw [old i (by omega) _ (by omega), hl2 i (by omega) _ (by omega)]; exact a3 c' hc'
  ·simp only [List.length_append, List.length_singleton] at h1
   by_cases e : c' = c
   ·subst e
    rw [c3 i c' h2 hc, if_pos ⟨h2, by omega⟩, ht2, pmul_comm hk 1 (negF D (cellAt A2 i c')) hk.one_lt (pscl_lt hk _ _), pmul_by_one hk (negF D (cellAt A2 i c')) (pscl_lt hk _ _)]
    exact padd_neg hk _
   ·rw [old i h2 c' (by omega)]
    exact hz2 i (by omega) h2 c' (by omega)
theorem Ecf.elim {D : FD} (hD : D.Ok) {W N n : Nat} {s : ESt} (h0 : s.cols = []) (ho : EOk D W n N s) : ∀ c, c <= W -> Ecf N c (elimF D hD.pre.pk s c)
 | 0, _ => ⟨fun i hi => by simp only [elimF] at hi; rw [h0] at hi; simp at hi, fun _ _ _ _ h => by omega⟩
 | c + 1, hc => (Ecf.elim hD h0 ho c (by omega)).step hD (ho.elim hD.pre.pk c) (by omega)
end FFld
end Go.Proofs.YtdnheaafcbihbaaGreat
namespace Go.Proofs.YtdnheaafcbihbaaGreat
open Go Go.RowKit Go.Deep
open FFld (ints)
namespace FFld
end FFld
section
variable {D : FFld.FD} {b : Nat} {W : World}
end
end Go.Proofs.YtdnheaafcbihbaaGreat
namespace Go.Proofs.YtdnheaafcbihbaaGreat
open Go Go.RowKit
namespace FFld
theorem Dom.neg_mul {α : Type} (F : Dom α) (b c : α) : F.mul (F.neg b) c = F.neg (F.mul b c) := by
 refine F.neg_unique ?_
 rw [<- F.add_mul, F.add_neg, F.zero_mul]
def RootIs (D : FD) (a r : Nat) : Prop := r < D.p ^ D.k /\ pmul D.p D.k D.m r D.k r = a /\ ∀ x, x < D.p ^ D.k -> pmul D.p D.k D.m x D.k x = a -> r <= x
end FFld
end Go.Proofs.YtdnheaafcbihbaaGreat
namespace Go.Proofs.YtdnheaafcbihbaaGreat
namespace FFld
namespace Dom
variable {α : Type} (F : Dom α)
def sm (F : Dom α) (f : Nat -> α) : Nat -> α
 | 0 => F.zero
 | n + 1 => F.add (sm F f n) (f n)
theorem sm_congr {f g : Nat -> α} : ∀ (n : Nat), (∀ i, i < n -> f i = g i) -> F.sm f n = F.sm g n
 | 0, _ => rfl
 | n + 1, h => by
   simp only [sm]
   rw [sm_congr n fun i hi => h i (by omega), h n (Nat.lt_succ_self n)]
theorem sm_add (f g : Nat -> α) : ∀ (n : Nat), F.sm (fun i => F.add (f i) (g i)) n = F.add (F.sm f n) (F.sm g n)
 | 0 => (F.add_zero _).symm
 | n + 1 => by
   simp only [sm]
   rw [sm_add f g n, F.add4]
theorem sm_mul (a : α) (f : Nat -> α) : ∀ (n : Nat), F.sm (fun i => F.mul a (f i)) n = F.mul a (F.sm f n)
 | 0 => (F.mul_zero a).symm
 | n + 1 => by
   simp only [sm]
   rw [sm_mul a f n, F.mul_add]
theorem sm_zero {f : Nat -> α} : ∀ (n : Nat), (∀ i, i < n -> f i = F.zero) -> F.sm f n = F.zero
 | 0, _ => rfl
 | n + 1, h => by
   simp only [sm]
   rw [sm_zero n fun i hi => h i (by omega), h n (Nat.lt_succ_self n), F.add_zero]
theorem sm_comm (f : Nat -> Nat -> α) (m : Nat) : ∀ (n : Nat), F.sm (fun i => F.sm (fun j => f i j) m) n = F.sm (fun j => F.sm (fun i => f i j) n) m
 | 0 => by
   simp only [sm]
   exact (F.sm_zero m fun _ _ => rfl).symm
 | n + 1 => by
   simp only [sm]
   rw [sm_comm f m n, F.sm_add]
theorem sm_one {f : Nat -> α} {j : Nat} : ∀ (n : Nat), j < n -> (∀ i, i < n -> i ≠ j -> f i = F.zero) -> F.sm f n = f j
 | 0, h, _ => by omega
 | n + 1, h, hz => by
   simp only [sm]
   by_cases e : j = n
   ·subst e
    rw [F.sm_zero _ fun i hi => hz i (by omega) (by omega), F.zero_add]
   ·rw [sm_one n (by omega) fun i hi => hz i (by omega), hz n (Nat.lt_succ_self n) (fun e2 => e e2.symm), F.add_zero]
def skp (j i : Nat) : Nat := if i < j then i else i + 1
inductive Spn (F : Dom α) (W : Nat) (P : (Nat -> α) -> Prop) : (Nat -> α) -> Prop where
 | mem (v : Nat -> α) : P v -> Spn F W P v
 | zero (v : Nat -> α) : (∀ c, c < W -> v c = F.zero) -> Spn F W P v
 | add (u v w : Nat -> α) : Spn F W P u -> Spn F W P v -> (∀ c, c < W -> w c = F.add (u c) (v c)) -> Spn F W P w
 | mul (a : α) (u w : Nat -> α) : Spn F W P u -> (∀ c, c < W -> w c = F.mul a (u c)) -> Spn F W P w
theorem Spn.trans {F : Dom α} {W : Nat} {P P' : (Nat -> α) -> Prop} (h : ∀ v, P v -> Spn F W P' v) {v : Nat -> α} (hv : Spn F W P v) : Spn F W P' v := by
 induction hv with
 | mem v hp => exact h v hp
 | zero v hz => exact .zero v hz
 | add u v w _ _ e iu iv => exact .add u v w iu iv e
 | mul a u w _ e iu => exact .mul a u w iu e
end Dom
end FFld
end Go.Proofs.YtdnheaafcbihbaaGreat
namespace Go.Proofs.YtdnheaafcbihbaaGreat
namespace FFld
def toE {D : FD} (h : PK D.p D.k D.m) (a : Nat) : El (D.p ^ D.k) := if ha : a < D.p ^ D.k then ⟨a, ha⟩ else ⟨0, Nat.pow_pos h.p0⟩
theorem toE_val {D : FD} (h : PK D.p D.k D.m) {a : Nat} (ha : a < D.p ^ D.k) : (toE h a).1 = a := by
 unfold toE
 rw [dif_pos ha]
section
variable {D : FD} (hD : D.Ok)
theorem toE_add {a b : Nat} (ha : a < D.p ^ D.k) (hb : b < D.p ^ D.k) : toE hD.pre.pk (padd D.p D.k a b) = (FD.dom hD.nzd).add (toE hD.pre.pk a) (toE hD.pre.pk b) := by
 apply Subtype.ext
 rw [toE_val _ (padd_lt hD.pre.pk _ _)]
 show _ = padd D.p D.k (toE hD.pre.pk a).1 (toE hD.pre.pk b).1
 rw [toE_val _ ha, toE_val _ hb]
theorem toE_mul {a b : Nat} (ha : a < D.p ^ D.k) (hb : b < D.p ^ D.k) : toE hD.pre.pk (pmul D.p D.k D.m a D.k b) = (FD.dom hD.nzd).mul (toE hD.pre.pk a) (toE hD.pre.pk b) := by
 apply Subtype.ext
 rw [toE_val _ (pmul_lt hD.pre.pk _ _ _)]
 show _ = pmul D.p D.k D.m (toE hD.pre.pk a).1 D.k (toE hD.pre.pk b).1
 rw [toE_val _ ha, toE_val _ hb]
theorem toE_neg {a : Nat} (ha : a < D.p ^ D.k) : toE hD.pre.pk (pscl D.p D.k (D.p - 1) a) = (FD.dom hD.nzd).neg (toE hD.pre.pk a) := by
 apply Subtype.ext
 rw [toE_val _ (pscl_lt hD.pre.pk _ _)]
 show _ = pscl D.p D.k (D.p - 1) (toE hD.pre.pk a).1
 rw [toE_val _ ha]
theorem toE_zero : toE hD.pre.pk 0 = (FD.dom hD.nzd).zero := by
 apply Subtype.ext
 rw [toE_val _ (Nat.pow_pos hD.pre.pk.p0)]
 rfl
theorem toE_one : toE hD.pre.pk 1 = (FD.dom hD.nzd).one := by
 apply Subtype.ext
 rw [toE_val _ hD.pre.pk.one_lt]
 rfl
end
end FFld
end Go.Proofs.YtdnheaafcbihbaaGreat
namespace Go.Proofs.YtdnheaafcbihbaaGreat
namespace FFld
section
variable {D : FD} (hD : D.Ok)
def RS {D : FD} (hD : D.Ok) (W N : Nat) (A : List (List Nat)) (v : Nat -> El (D.p ^ D.k)) : Prop := ∃ i, i < N /\ ∀ c, c < W -> v c = toE hD.pre.pk (cellAt A i c)
def Into {D : FD} (hD : D.Ok) (W N : Nat) (A B : List (List Nat)) : Prop := ∀ v, RS hD W N A v -> Dom.Spn (FD.dom hD.nzd) W (RS hD W N B) v
variable {hD} {W N : Nat} {A B C : List (List Nat)}
theorem Into.refl : Into hD W N A A := fun v hv => .mem v hv
theorem Into.trans (h1 : Into hD W N A B) (h2 : Into hD W N B C) : Into hD W N A C := fun v hv => (h1 v hv).trans h2
theorem Dom.Spn.ext {α : Type} {F : Dom α} {W : Nat} {P : (Nat -> α) -> Prop} {u w : Nat -> α} (h : Dom.Spn F W P u) (e : ∀ c, c < W -> w c = u c) : Dom.Spn F W P w := .mul F.one u w h fun c hc => by rw [F.one_mul, e c hc]
theorem Into.of (h : ∀ i, i < N -> Dom.Spn (FD.dom hD.nzd) W (RS hD W N B) (fun c => toE hD.pre.pk (cellAt A i c))) : Into hD W N A B := fun v hv => by
 obtain ⟨i, hi, e⟩ := hv
 exact (h i hi).ext e
theorem row_in {i : Nat} (hi : i < N) : Dom.Spn (FD.dom hD.nzd) W (RS hD W N A) (fun c => toE hD.pre.pk (cellAt A i c)) := .mem _ ⟨i, hi, fun _ _ => rfl⟩
theorem swapN_swapN (i j k : Nat) : swapN i j (swapN i j k) = k := by
 unfold swapN
 by_cases h1 : k = j
 ·subst h1
  rw [if_pos rfl]
  by_cases h2 : i = k
  ·rw [if_pos h2]; exact h2
  ·rw [if_neg h2, if_pos rfl]
 ·rw [if_neg h1]
  by_cases h2 : k = i
  ·subst h2
   rw [if_pos rfl, if_pos rfl]
  ·rw [if_neg h2, if_neg h1, if_neg h2]
theorem into_exch {i j : Nat} (hl : A.length = N) (hi : i < N) (hj : j < N) : Into hD W N (exch [] A i j) A /\ Into hD W N A (exch [] A i j) :=
 ⟨.of fun k hk => .mem _ ⟨swapN i j k, swapN_lt hi hj hk, fun c _ => by dsimp only; rw [cell_exch (by omega) (by omega)]⟩,
  .of fun k hk => .mem _ ⟨swapN i j k, swapN_lt hi hj hk, fun c _ => by dsimp only; rw [cell_exch (by omega) (by omega), swapN_swapN]⟩⟩
theorem into_mul (hl : A.length = N) (wa : Wfm D W A) {i t x : Nat} (hi : i < N) (ht : t < D.p ^ D.k) (hx : x < D.p ^ D.k) (h1 : pmul D.p D.k D.m x D.k t = 1) : Into hD W N (mulAt D A i t) A /\ Into hD W N A (mulAt D A i t) := by
 have hk := hD.pre.pk
 have e1 : (FD.dom hD.nzd).mul (toE hk x) (toE hk t) = (FD.dom hD.nzd).one := by rw [<- toE_mul hD hx ht, h1, toE_one hD]
 refine ⟨.of fun k hkn => ?_, .of fun k hkn => ?_⟩
 ·by_cases e : k = i
  ·subst e
   refine .mul (toE hk t) _ _ (row_in hkn) fun c hc => ?_
   rw [cell_mul wa (by omega) t k hc, if_pos rfl, toE_mul hD (wa.cell hk _ _) ht, Dom.mul_comm]
  ·exact .mem _ ⟨k, hkn, fun c hc => by dsimp only; rw [cell_mul wa (by omega) t k hc, if_neg e]⟩
 ·by_cases e : k = i
  ·subst e
   refine .mul (toE hk x) _ _ (row_in (A := mulAt D A k t) hkn) fun c hc => ?_
   rw [cell_mul wa (by omega) t k hc, if_pos rfl, toE_mul hD (wa.cell hk _ _) ht, Dom.mul_comm _ (toE hk (cellAt A k c)), <- Dom.mul_assoc, e1, Dom.one_mul]
  ·exact .mem _ ⟨k, hkn, fun c hc => by dsimp only; rw [cell_mul wa (by omega) t k hc, if_neg e]⟩
theorem into_subs {B : List (List Nat)} {top c0 : Nat} (wa : Wfm D W A) (ht : top < N)
 (hc : ∀ k c, k < N -> c < W -> cellAt B k c = if k < N /\ k ≠ top then padd D.p D.k (cellAt A k c) (pmul D.p D.k D.m (cellAt A top c) D.k (negF D (cellAt A k c0))) else cellAt A k c) : Into hD W N B A /\ Into hD W N A B := by
 have hk := hD.pre.pk
 have hw := fun k c => wa.cell hk k c
 have hn : ∀ a, negF D a < D.p ^ D.k := fun a => pscl_lt hk _ _
 refine ⟨.of fun k hkn => ?_, .of fun k hkn => ?_⟩
 ·by_cases e : k = top
  ·exact .mem _ ⟨k, hkn, fun c hcw => by dsimp only; rw [hc k c hkn hcw, if_neg (fun h => h.2 e)]⟩
  ·refine .add _ _ _ (row_in hkn) (.mul (toE hk (negF D (cellAt A k c0))) _ (fun c => (FD.dom hD.nzd).mul (toE hk (negF D (cellAt A k c0))) (toE hk (cellAt A top c))) (row_in ht) fun c _ => rfl) fun c hcw => ?_
   rw [hc k c hkn hcw, if_pos ⟨hkn, e⟩, toE_add hD (hw _ _) (pmul_lt hk _ _ _), toE_mul hD (hw _ _) (hn _), Dom.mul_comm]
 ·by_cases e : k = top
  ·exact .mem _ ⟨k, hkn, fun c hcw => by dsimp only; rw [hc k c hkn hcw, if_neg (fun h => h.2 e)]⟩
  ·refine .add _ _ _ (row_in (A := B) hkn) (.mul (toE hk (cellAt A k c0)) _ (fun c => (FD.dom hD.nzd).mul (toE hk (cellAt A k c0)) (toE hk (cellAt B top c))) (row_in (A := B) ht) fun c _ => rfl) fun c hcw => ?_
   have en : toE hk (negF D (cellAt A k c0)) = (FD.dom hD.nzd).neg (toE hk (cellAt A k c0)) := toE_neg hD (hw _ _)
   rw [hc k c hkn hcw, if_pos ⟨hkn, e⟩, hc top c ht hcw, if_neg (fun h => h.2 rfl), toE_add hD (hw _ _) (pmul_lt hk _ _ _), toE_mul hD (hw _ _) (hn _), en, Dom.mul_neg, Dom.mul_comm _ (toE hk (cellAt A top c)), Dom.add_assoc, Dom.add_comm _ (Dom.neg _ _), Dom.add_neg, Dom.add_zero]
end
theorem step_cases {D : FD} (hD : D.Ok) {W N n : Nat} {s : ESt} {c : Nat} (ho : EOk D W n N s) (hc : c < W) :
 (stepF D hD.pre.pk c s = s /\ ∀ k, s.cols.length <= k -> k < N -> cellAt s.A k c = 0) \/
 (s.cols.length < N /\ ∃ row inv, s.cols.length <= row /\ row < N /\ inv < D.p ^ D.k /\ pmul D.p D.k D.m (cellAt (exch [] s.A s.cols.length row) s.cols.length c) D.k inv = 1 /\ (stepF D hD.pre.pk c s).cols = s.cols ++ [c] /\
   ∀ k c', k < N -> c' < W -> cellAt (stepF D hD.pre.pk c s).A k c' = if k < N /\ k ≠ s.cols.length then padd D.p D.k (cellAt (mulAt D (exch [] s.A s.cols.length row) s.cols.length inv) k c') (pmul D.p D.k D.m (cellAt (mulAt D (exch [] s.A s.cols.length row) s.cols.length inv) s.cols.length c') D.k (negF D (cellAt (mulAt D (exch [] s.A s.cols.length row) s.cols.length inv) k c))) else cellAt (mulAt D (exch [] s.A s.cols.length row) s.cols.length inv) k c') := by
 have hk := hD.pre.pk
 have hp := piv_le s.A c (s.A.length - s.cols.length) s.cols.length
 have hla := ho.la
 have hlr := ho.lr
 have hcl := ho.cl
 have hfd := piv_found (A := s.A) (c := c) (s.A.length - s.cols.length) s.cols.length
 have hzr := piv_zero (A := s.A) (c := c) (s.A.length - s.cols.length) s.cols.length
 unfold stepF
 simp only
 split
 ·rename_i he
  exact .inl ⟨rfl, fun k h1 h2 => hzr (by omega) k h1 (by omega)⟩
 ·rename_i hne
  have htop : s.cols.length < N := by omega
  have hrow : piv s.A c (s.A.length - s.cols.length) s.cols.length < N := by omega
  have hge := hp.1
  have hx0 := hfd (by omega)
  clear hfd hzr
  generalize piv s.A c (s.A.length - s.cols.length) s.cols.length = row at *
  have la1 : (exch [] s.A s.cols.length row).length = N := by rw [exch_len]; exact hla
  have w1 := ho.wa.exch (i := s.cols.length) (j := row) (by omega) (by omega)
  have wr1 := ho.wr.exch (i := s.cols.length) (j := row) (by omega) (by omega)
  have hxe : cellAt (exch [] s.A s.cols.length row) s.cols.length c = cellAt s.A row c := by
   rw [cell_exch (by omega) (by omega)]
   congr 1
   unfold swapN
   by_cases e : s.cols.length = row
   ·rw [if_pos e]; exact e
   ·rw [if_neg e, if_pos rfl]
  rw [<- hxe] at hx0
  have hxq := w1.cell hk s.cols.length c
  have hix := hD.div_mul (a := 1) (b := cellAt (exch [] s.A s.cols.length row) s.cols.length c) hk.one_lt hxq hx0
  rw [pmul_comm hk _ _ hk.one_lt hxq, pmul_by_one hk _ hxq] at hix
  have hiq := ppow_lt hk (cellAt (exch [] s.A s.cols.length row) s.cols.length c) (D.q - 2)
  generalize ppow hk (cellAt (exch [] s.A s.cols.length row) s.cols.length c) (D.q - 2) = inv at *
  have la2 : (mulAt D (exch [] s.A s.cols.length row) s.cols.length inv).length = N := by rw [mulAt_len]; exact la1
  have w2 := w1.mul hk s.cols.length inv
  have wr2 := wr1.mul hk s.cols.length inv
  rw [hla]
  exact .inr ⟨htop, row, inv, hge, hrow, hiq, hix, rfl, fun k c' h1 h2 => cell_subs hk la2 w2 wr2 hc htop N (Nat.le_refl _) k c' h1 h2⟩
theorem into_step {D : FD} (hD : D.Ok) {W N n : Nat} {s : ESt} {c : Nat} (ho : EOk D W n N s) (hc : c < W) : Into hD W N (stepF D hD.pre.pk c s).A s.A /\ Into hD W N s.A (stepF D hD.pre.pk c s).A := by
 have hk := hD.pre.pk
 have hla := ho.la
 rcases step_cases hD ho hc with ⟨e, _⟩ | ⟨htop, row, inv, h1, h2, h3, h4, _, h5⟩
 ·rw [e]
  exact ⟨.refl, .refl⟩
 ·have w1 := ho.wa.exch (i := s.cols.length) (j := row) (by omega) (by omega)
  have la1 : (exch [] s.A s.cols.length row).length = N := by rw [exch_len]; exact hla
  have i1 := into_exch (hD := hD) (W := W) hla htop h2
  have i2 := into_mul (hD := hD) la1 w1 htop h3 (w1.cell hk _ _) h4
  have i3 := into_subs (hD := hD) (w1.mul hk s.cols.length inv) htop h5
  exact ⟨i3.1.trans (i2.1.trans i1.1), i1.2.trans (i2.2.trans i3.2)⟩
theorem into_elim {D : FD} (hD : D.Ok) {W N n : Nat} {s : ESt} (ho : EOk D W n N s) : ∀ c, c <= W -> Into hD W N (elimF D hD.pre.pk s c).A s.A /\ Into hD W N s.A (elimF D hD.pre.pk s c).A
 | 0, _ => ⟨.refl, .refl⟩
 | c + 1, hc => by
   have h1 := into_elim hD ho c (by omega)
   have h2 := into_step hD (ho.elim hD.pre.pk c) (c := c) (by omega)
   exact ⟨h2.1.trans h1.1, h1.2.trans h2.2⟩
structure Rcf (N : Nat) (s : ESt) : Prop where
 up : ∀ i, i < s.cols.length -> ∀ k, k < N -> k ≠ i -> cellAt s.A k (s.cols[i]?.getD 0) = 0
 mono : ∀ i j, i < j -> j < s.cols.length -> s.cols[i]?.getD 0 < s.cols[j]?.getD 0
theorem Rcf.step {D : FD} (hD : D.Ok) {W N n : Nat} {s : ESt} {c : Nat} (h : Ecf N c s) (hr : Rcf N s) (ho : EOk D W n N s) (hc : c < W) : Rcf N (stepF D hD.pre.pk c s) := by
 have hk := hD.pre.pk
 have hla := ho.la
 rcases step_cases hD ho hc with ⟨e, _⟩ | ⟨htop, row, inv, h1, h2, h3, h4, ec, h5⟩
 ·rw [e]
  exact hr
 ·have w1 := ho.wa.exch (i := s.cols.length) (j := row) (by omega) (by omega)
  have la1 : (exch [] s.A s.cols.length row).length = N := by rw [exch_len]; exact hla
  have c1 : ∀ k c', cellAt (exch [] s.A s.cols.length row) k c' = cellAt s.A (swapN s.cols.length row k) c' := fun k c' => cell_exch (by omega) (by omega) k c'
  have hz1 : ∀ k, s.cols.length <= k -> k < N -> ∀ c', c' < c -> cellAt (exch [] s.A s.cols.length row) k c' = 0 := fun k q1 q2 c' hc' => by
   rw [c1]
   refine h.zero _ ?_ (swapN_lt htop h2 q2) c' hc'
   unfold swapN
   split
   ·omega
   ·split <;> omega
  have hl1 : ∀ k, k < s.cols.length -> ∀ c', cellAt (exch [] s.A s.cols.length row) k c' = cellAt s.A k c' := fun k q1 c' => by
   rw [c1]
   congr 1
   unfold swapN
   rw [if_neg (by omega), if_neg (by omega)]
  generalize exch [] s.A s.cols.length row = A1 at *
  have c2 := fun k c' (hc' : c' < W) => cell_mul w1 (i := s.cols.length) (by omega) inv k hc'
  have w2 := w1.mul hk s.cols.length inv
  have ht2 : cellAt (mulAt D A1 s.cols.length inv) s.cols.length c = 1 := by rw [c2 s.cols.length c hc, if_pos rfl]; exact h4
  have hz2 : ∀ k, s.cols.length <= k -> k < N -> ∀ c', c' < c -> cellAt (mulAt D A1 s.cols.length inv) k c' = 0 := fun k q1 q2 c' hc' => by
   rw [c2 k c' (by omega)]
   split
   ·rw [hz1 s.cols.length (Nat.le_refl _) htop c' hc', pmul_comm hk _ _ (Nat.pow_pos hk.p0) h3, pmul_zero_right hk]
   ·exact hz1 k q1 q2 c' hc'
  have hl2 : ∀ k, k < s.cols.length -> ∀ c', c' < W -> cellAt (mulAt D A1 s.cols.length inv) k c' = cellAt s.A k c' := fun k q1 c' hc' => by
   rw [c2 k c' hc', if_neg (by omega)]
   exact hl1 k q1 c'
  generalize mulAt D A1 s.cols.length inv = A2 at *
  have hzz : ∀ t, t < D.p ^ D.k -> pmul D.p D.k D.m 0 D.k t = 0 := fun t ht => by rw [pmul_comm hk _ _ (Nat.pow_pos hk.p0) ht, pmul_zero_right hk]
  have old : ∀ k, k < N -> ∀ c', c' < c -> cellAt (stepF D hD.pre.pk c s).A k c' = cellAt A2 k c' := fun k q1 c' hc' => by
   rw [h5 k c' q1 (by omega)]
   split
   ·rw [hz2 s.cols.length (Nat.le_refl _) htop c' hc', hzz (negF D (cellAt A2 k c)) (pscl_lt hk _ _), padd_zero hk _ (w2.cell hk k c')]
   ·rfl
  have ei : ∀ i, i < s.cols.length -> (s.cols ++ [c])[i]?.getD 0 = s.cols[i]?.getD 0 := fun i hi => by rw [List.getElem?_append_left hi]
  have et : (s.cols ++ [c])[s.cols.length]?.getD 0 = c := by simp
  refine ⟨fun i hi k hkn hne => ?_, fun i j hij hj => ?_⟩
  ·rw [ec, List.length_append, List.length_singleton] at hi
   rw [ec]
   by_cases e : i = s.cols.length
   ·subst e
    rw [et, h5 k c hkn hc, if_pos ⟨hkn, hne⟩, ht2, pmul_comm hk 1 (negF D (cellAt A2 k c)) hk.one_lt (pscl_lt hk _ _), pmul_by_one hk (negF D (cellAt A2 k c)) (pscl_lt hk _ _)]
    exact padd_neg hk _
   ·have hi' : i < s.cols.length := by omega
    obtain ⟨a1, a2, a3⟩ := h.low i hi'
    rw [ei i hi', old k hkn _ a1]
    by_cases e3 : k < s.cols.length
    ·rw [hl2 k e3 _ (by omega)]
     exact hr.up i hi' k hkn hne
    ·exact hz2 k (by omega) hkn _ a1
  ·rw [ec, List.length_append, List.length_singleton] at hj
   rw [ec, ei i (by omega)]
   by_cases e : j = s.cols.length
   ·subst e
    rw [et]
    exact (h.low i (by omega)).1
   ·rw [ei j (by omega)]
    exact hr.mono i j hij (by omega)
theorem Rcf.elim {D : FD} (hD : D.Ok) {W N n : Nat} {s : ESt} (h0 : s.cols = []) (ho : EOk D W n N s) : ∀ c, c <= W -> Rcf N (elimF D hD.pre.pk s c)
 | 0, _ => ⟨fun i hi => by simp only [elimF] at hi; rw [h0] at hi; simp at hi, fun i j _ hj => by simp only [elimF] at hj; rw [h0] at hj; simp at hj⟩
 | c + 1, hc => (Rcf.elim hD h0 ho c (by omega)).step hD (Ecf.elim hD h0 ho c (by omega)) (ho.elim hD.pre.pk c) (by omega)
end FFld
end Go.Proofs.YtdnheaafcbihbaaGreat
