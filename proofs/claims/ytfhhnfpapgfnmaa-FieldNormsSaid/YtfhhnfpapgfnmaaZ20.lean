/-
  Texts of the proof, merged by program: Ma Mb Mc Md.
-/
import Derived.Test.YtfhhnfpapgfnmaaZ14
import Derived.Test.YtfhhnfpapgfnmaaZ15
import Derived.Test.YtfhhnfpapgfnmaaZ16
import Derived.Deep.OwnRows
import Derived.BigRegion
set_option linter.unusedVariables false
set_option linter.unusedSectionVars false
set_option linter.unusedSimpArgs false
namespace Go.Proofs.Ytfhhnfpapgfnmaa
namespace FFld
/-- Two elements of a list exchanged. -/
def exch {α : Type} (d : α) (A : List α) (i j : Nat) : List α := (A.set i (A[j]?.getD d)).set j (A[i]?.getD d)
theorem exch_len {α : Type} (d : α) (A : List α) (i j : Nat) : (exch d A i j).length = A.length := by simp [exch]
theorem exch_get {α : Type} (d : α) (A : List α) {i j : Nat} (hi : i < A.length) (hj : j < A.length) (k : Nat) : (exch d A i j)[k]? = A[if k = j then i else if k = i then j else k]? := by
  unfold exch
  by_cases h1 : k = j
  · subst h1
    rw [if_pos rfl, List.getElem?_set_self (by simpa using hj), List.getElem?_eq_getElem hi]
    rfl
  · rw [if_neg h1, List.getElem?_set_ne (fun e => h1 e.symm)]
    by_cases h2 : k = i
    · subst h2
      rw [if_pos rfl, List.getElem?_set_self hi, List.getElem?_eq_getElem hj]
      rfl
    · rw [if_neg h2, List.getElem?_set_ne (fun e => h2 e.symm)]
theorem exch_mem {α : Type} (d : α) (A : List α) {i j : Nat} (hi : i < A.length) (hj : j < A.length) {a : α} (h : a ∈ exch d A i j) : a ∈ A := by
  obtain ⟨k, hk⟩ := List.mem_iff_getElem?.1 h
  rw [exch_get d A hi hj] at hk
  exact List.mem_iff_getElem?.2 ⟨_, hk⟩
theorem exch_map {α β : Type} (f : α → β) (d : α) (e : β) (A : List α) {i j : Nat} (hi : i < A.length) (hj : j < A.length) : (exch d A i j).map f = exch e (A.map f) i j := by
  apply List.ext_getElem?
  intro k
  rw [List.getElem?_map, exch_get d A hi hj, exch_get e (A.map f) (by simpa using hi) (by simpa using hj), List.getElem?_map]
/-- A row times an element. -/
def rowMul (D : FD) (l : List Nat) (c : Nat) : List Nat := l.map fun a => pmul D.p D.k D.m a D.k c
theorem rowMul_len (D : FD) (l : List Nat) (c : Nat) : (rowMul D l c).length = l.length := by simp [rowMul]
theorem rowMul_get (D : FD) (l : List Nat) (c i : Nat) (hi : i < l.length) : (rowMul D l c)[i]?.getD 0 = pmul D.p D.k D.m (l[i]?.getD 0) D.k c := by simp [rowMul, hi]
/-- How far a row has been multiplied. -/
def rowMulF (D : FD) (l : List Nat) (c : Nat) : Nat → List Nat
  | 0 => l
  | j + 1 => (rowMulF D l c j).set j (pmul D.p D.k D.m ((rowMulF D l c j)[j]?.getD 0) D.k c)
theorem rowMulF_len (D : FD) (l : List Nat) (c j : Nat) : (rowMulF D l c j).length = l.length := by
  induction j with
  | zero => rfl
  | succ j ih => simp only [rowMulF, List.length_set, ih]
theorem rowMulF_get (D : FD) (l : List Nat) (c : Nat) : ∀ (j i : Nat), j ≤ l.length → (rowMulF D l c j)[i]? = if i < j then (rowMul D l c)[i]? else l[i]?
  | 0, i, _ => by simp [rowMulF]
  | j + 1, i, hj => by
    have ih := fun i => rowMulF_get D l c j i (by omega)
    simp only [rowMulF]
    by_cases e : j = i
    · subst e
      rw [List.getElem?_set_self (by rw [rowMulF_len]; omega), if_pos (by omega), ih, if_neg (by omega)]
      simp [rowMul, show j < l.length by omega]
    · rw [List.getElem?_set_ne e, ih]
      by_cases h : i < j
      · rw [if_pos h, if_pos (by omega)]
      · rw [if_neg h, if_neg (by omega)]
theorem rowMulF_all (D : FD) (l : List Nat) (c : Nat) : rowMulF D l c l.length = rowMul D l c := by
  apply List.ext_getElem?
  intro i
  rw [rowMulF_get D l c _ i (Nat.le_refl _)]
  by_cases h : i < l.length
  · rw [if_pos h]
  · rw [if_neg h, List.getElem?_eq_none (by omega), List.getElem?_eq_none (by rw [rowMul_len]; omega)]
theorem rowMulF_lt {D : FD} (hk : PK D.p D.k D.m) {l : List Nat} (c j : Nat) (h : ∀ a ∈ l, a < D.p ^ D.k) : ∀ a ∈ rowMulF D l c j, a < D.p ^ D.k := by
  induction j with
  | zero => exact h
  | succ j ih => exact mem_set ih (pmul_lt hk _ _ _)
def negF (D : FD) (t : Nat) : Nat := pscl D.p D.k (D.p - 1) t
def rowAt (A : List (List Nat)) (i : Nat) : List Nat := A[i]?.getD []
def cellAt (A : List (List Nat)) (i c : Nat) : Nat := (rowAt A i)[c]?.getD 0
def mulAt (D : FD) (A : List (List Nat)) (i c : Nat) : List (List Nat) := A.set i (rowMul D (rowAt A i) c)
def subAt (D : FD) (A : List (List Nat)) (i j t : Nat) : List (List Nat) := A.set i (addm D (rowAt A i) 0 (rowAt A j) (negF D t))
/-- The first i rows, but that at the place top, less their element in the column c times the row at top; the same of the record. -/
def subsF (D : FD) (top c : Nat) (s : List (List Nat) × List (List Nat)) : Nat → List (List Nat) × List (List Nat)
  | 0 => s
  | i + 1 => if i = top then subsF D top c s i else (subAt D (subsF D top c s i).1 i top (cellAt (subsF D top c s i).1 i c), subAt D (subsF D top c s i).2 i top (cellAt (subsF D top c s i).1 i c))
/-- The first row from r on, of f rows, that is not 0 in the column c. -/
def piv (A : List (List Nat)) (c : Nat) : Nat → Nat → Nat
  | 0, r => r
  | f + 1, r => if cellAt A r c = 0 then piv A c f (r + 1) else r
theorem piv_le (A : List (List Nat)) (c : Nat) : ∀ f r, r ≤ piv A c f r ∧ piv A c f r ≤ r + f
  | 0, r => ⟨Nat.le_refl _, Nat.le_refl _⟩
  | f + 1, r => by
    unfold piv
    split
    · have := piv_le A c f (r + 1)
      omega
    · omega
structure ESt where
  A : List (List Nat)
  R : List (List Nat)
  cols : List Nat
def stepF (D : FD) (h : PK D.p D.k D.m) (c : Nat) (s : ESt) : ESt :=
  let top := s.cols.length
  let row := piv s.A c (s.A.length - top) top
  if row = s.A.length then s else
    let A1 := exch [] s.A top row
    let R1 := exch [] s.R top row
    let inv := ppow h (cellAt A1 top c) (D.q - 2)
    let t := subsF D top c (mulAt D A1 top inv, mulAt D R1 top inv) s.A.length
    ⟨t.1, t.2, s.cols ++ [c]⟩
def elimF (D : FD) (h : PK D.p D.k D.m) (s : ESt) : Nat → ESt
  | 0 => s
  | c + 1 => stepF D h c (elimF D h s c)
/-- Rows of n elements each. -/
def Wfm (D : FD) (n : Nat) (A : List (List Nat)) : Prop := ∀ r ∈ A, r.length = n ∧ ∀ a ∈ r, a < D.p ^ D.k
theorem Wfm.row {D : FD} {n : Nat} {A : List (List Nat)} (h : Wfm D n A) {i : Nat} (hi : i < A.length) : (rowAt A i).length = n ∧ ∀ a ∈ rowAt A i, a < D.p ^ D.k := by
  unfold rowAt
  rw [List.getElem?_eq_getElem hi]
  exact h _ (List.getElem_mem hi)
theorem rowAt_lt {D : FD} {n : Nat} {A : List (List Nat)} (h : Wfm D n A) (i : Nat) : ∀ a ∈ rowAt A i, a < D.p ^ D.k := by
  by_cases hi : i < A.length
  · exact (h.row hi).2
  · unfold rowAt
    rw [List.getElem?_eq_none (by omega)]
    intro a ha
    simp at ha
theorem Wfm.cell {D : FD} (hk : PK D.p D.k D.m) {n : Nat} {A : List (List Nat)} (h : Wfm D n A) (i c : Nat) : cellAt A i c < D.p ^ D.k := getD_lt (Nat.pow_pos hk.p0) (rowAt_lt h i) c
theorem Wfm.set {D : FD} {n : Nat} {A : List (List Nat)} (h : Wfm D n A) {r : List Nat} (i : Nat) (h1 : i < A.length → r.length = n) (h2 : ∀ a ∈ r, a < D.p ^ D.k) : Wfm D n (A.set i r) := by
  intro x hx
  obtain ⟨k, hk⟩ := List.mem_iff_getElem?.1 hx
  by_cases e : i = k
  · subst e
    by_cases hl : i < A.length
    · rw [List.getElem?_set_self hl] at hk
      cases hk
      exact ⟨h1 hl, h2⟩
    · rw [List.getElem?_eq_none (by simpa using hl)] at hk
      cases hk
  · rw [List.getElem?_set_ne e] at hk
    exact h x (List.mem_iff_getElem?.2 ⟨k, hk⟩)
theorem Wfm.exch {D : FD} {n : Nat} {A : List (List Nat)} (h : Wfm D n A) {i j : Nat} (hi : i < A.length) (hj : j < A.length) : Wfm D n (exch [] A i j) := fun r hr => h r (exch_mem [] A hi hj hr)
theorem Wfm.mul {D : FD} (hk : PK D.p D.k D.m) {n : Nat} {A : List (List Nat)} (h : Wfm D n A) (i c : Nat) : Wfm D n (mulAt D A i c) :=
  h.set i (fun hi => by rw [rowMul_len]; exact (h.row hi).1) (fun a ha => by
    obtain ⟨b, _, rfl⟩ := List.mem_map.1 ha
    exact pmul_lt hk _ _ _)
theorem Wfm.sub {D : FD} (hk : PK D.p D.k D.m) {n : Nat} {A : List (List Nat)} (h : Wfm D n A) (i j t : Nat) : Wfm D n (subAt D A i j t) :=
  h.set i (fun hi => by rw [addm_len]; exact (h.row hi).1) (addmF_lt hk _ _ _ _ (rowAt_lt h i))
theorem subAt_len (D : FD) (A : List (List Nat)) (i j t : Nat) : (subAt D A i j t).length = A.length := by simp [subAt]
theorem mulAt_len (D : FD) (A : List (List Nat)) (i t : Nat) : (mulAt D A i t).length = A.length := by simp [mulAt]
theorem subsF_len (D : FD) (top c : Nat) (s : List (List Nat) × List (List Nat)) (i : Nat) : (subsF D top c s i).1.length = s.1.length ∧ (subsF D top c s i).2.length = s.2.length := by
  induction i with
  | zero => exact ⟨rfl, rfl⟩
  | succ i ih =>
    simp only [subsF]
    split
    · exact ih
    · simp only [subAt_len]; exact ih
theorem subsF_wf {D : FD} (hk : PK D.p D.k D.m) {n m : Nat} (top c : Nat) {s : List (List Nat) × List (List Nat)} (h1 : Wfm D n s.1) (h2 : Wfm D m s.2) (i : Nat) : Wfm D n (subsF D top c s i).1 ∧ Wfm D m (subsF D top c s i).2 := by
  induction i with
  | zero => exact ⟨h1, h2⟩
  | succ i ih =>
    simp only [subsF]
    split
    · exact ih
    · exact ⟨ih.1.sub hk _ _ _, ih.2.sub hk _ _ _⟩
/-- What every stage of the elimination keeps. -/
structure EOk (D : FD) (n m N : Nat) (s : ESt) : Prop where
  la : s.A.length = N
  lr : s.R.length = N
  wa : Wfm D n s.A
  wr : Wfm D m s.R
  cl : s.cols.length ≤ N
theorem EOk.step {D : FD} {n m N : Nat} {s : ESt} (h : EOk D n m N s) (hk : PK D.p D.k D.m) (c : Nat) : EOk D n m N (stepF D hk c s) := by
  unfold stepF
  simp only
  have hp := piv_le s.A c (s.A.length - s.cols.length) s.cols.length
  have hla := h.la
  have hlr := h.lr
  have hcl := h.cl
  split
  · exact h
  · rename_i hne
    have hrow : piv s.A c (s.A.length - s.cols.length) s.cols.length < s.A.length := by omega
    have htop : s.cols.length < s.A.length := by omega
    have w1 := (h.wa.exch htop hrow).mul hk s.cols.length (ppow hk (cellAt (exch [] s.A s.cols.length (piv s.A c (s.A.length - s.cols.length) s.cols.length)) s.cols.length c) (D.q - 2))
    have w2 := (h.wr.exch (i := s.cols.length) (j := piv s.A c (s.A.length - s.cols.length) s.cols.length) (by omega) (by omega)).mul hk s.cols.length (ppow hk (cellAt (exch [] s.A s.cols.length (piv s.A c (s.A.length - s.cols.length) s.cols.length)) s.cols.length c) (D.q - 2))
    have hw := subsF_wf hk s.cols.length c (s := (_, _)) w1 w2 s.A.length
    have hl := subsF_len D s.cols.length c (mulAt D (exch [] s.A s.cols.length (piv s.A c (s.A.length - s.cols.length) s.cols.length)) s.cols.length (ppow hk (cellAt (exch [] s.A s.cols.length (piv s.A c (s.A.length - s.cols.length) s.cols.length)) s.cols.length c) (D.q - 2)), mulAt D (exch [] s.R s.cols.length (piv s.A c (s.A.length - s.cols.length) s.cols.length)) s.cols.length (ppow hk (cellAt (exch [] s.A s.cols.length (piv s.A c (s.A.length - s.cols.length) s.cols.length)) s.cols.length c) (D.q - 2))) s.A.length
    simp only [mulAt_len, exch_len] at hl
    exact ⟨by rw [hl.1]; exact hla, by rw [hl.2]; exact hlr, hw.1, hw.2, by simp; omega⟩
theorem EOk.elim {D : FD} {n m N : Nat} {s : ESt} (h : EOk D n m N s) (hk : PK D.p D.k D.m) (c : Nat) : EOk D n m N (elimF D hk s c) := by
  induction c with
  | zero => exact h
  | succ c ih => exact ih.step hk c
end FFld
end Go.Proofs.Ytfhhnfpapgfnmaa

set_option linter.unusedVariables false
set_option linter.unusedSimpArgs false
namespace Go.Proofs.Ytfhhnfpapgfnmaa
open Go Go.RowKit
open FFld (ints)
/-- A row of a matrix: the block that holds it (none where it has no elements), its capacity, its elements. -/
structure RH where
  blk : Option Nat
  cap : Nat
  xs : List Nat
def RH.nil : RH := ⟨none, 0, []⟩
def RH.val (r : RH) : Value := match r.blk with
  | none => .slice none 0 0
  | some g => .slice (some ⟨g, 0, none⟩) r.xs.length r.cap
def RH.ok (w : World) (r : RH) : Prop := match r.blk with
  | none => r.xs = []
  | some g => Wv w g r.xs ∧ r.xs.length ≤ r.cap ∧ r.cap ≤ maxLen
theorem Wv.grown {w w' : World} {g : Nat} {l : List Nat} {row : Option Nat} (h : Wv w g l) (hg : w.grownBy w' row) (hne : some g ≠ row) : Wv w' g l := by
  have hl := h.lt
  obtain ⟨cur, h1, h2, h3⟩ := h
  exact ⟨cur, (hg.block _ hl hne).trans h1, h2, h3⟩
theorem RH.ok.grown {w w' : World} {r : RH} {row : Option Nat} (h : r.ok w) (hg : w.grownBy w' row) (hne : ∀ g, r.blk = some g → some g ≠ row) : r.ok w' := by
  obtain ⟨b, c, l⟩ := r
  cases b with
  | none => exact h
  | some g => exact ⟨Wv.grown h.1 hg (hne g rfl), h.2⟩
theorem RH.ok.lt {w : World} {r : RH} (h : r.ok w) {g : Nat} (hg : r.blk = some g) : g < w.heap.size := by
  obtain ⟨b, c, l⟩ := r
  cases hg
  exact h.1.lt
theorem RH.val_eq {r s : RH} (hb : r.blk = s.blk) (hc : r.cap = s.cap) (hl : r.xs.length = s.xs.length) : r.val = s.val := by
  obtain ⟨b, c, l⟩ := r
  obtain ⟨b', c', l'⟩ := s
  cases hb
  cases hc
  cases b with
  | none => rfl
  | some g => simp only [RH.val]; simp only at hl; rw [hl]
def rowH (L : List RH) (i : Nat) : RH := L[i]?.getD RH.nil
theorem rowH_mem {L : List RH} {i : Nat} (h : i < L.length) : rowH L i ∈ L := by
  unfold rowH
  rw [List.getElem?_eq_getElem h]
  exact List.getElem_mem h
theorem rowH_xs (L : List RH) (i : Nat) : (rowH L i).xs = FFld.rowAt (L.map RH.xs) i := by
  unfold rowH FFld.rowAt
  rw [List.getElem?_map]
  cases L[i]? <;> rfl
/-- The same row with other elements. -/
def RH.put (r : RH) (l : List Nat) : RH := ⟨r.blk, r.cap, l⟩
/-- Rows lie in blocks of their own. -/
def dis (L : List RH) : Prop := ∀ (i j g : Nat), L[i]?.bind RH.blk = some g → L[j]?.bind RH.blk = some g → i = j
theorem dis.set {L : List RH} (h : dis L) {i : Nat} (hi : i < L.length) (l : List Nat) : dis (L.set i ((rowH L i).put l)) := by
  have e : ∀ k, (L.set i ((rowH L i).put l))[k]?.bind RH.blk = L[k]?.bind RH.blk := fun k => by
    by_cases e : i = k
    · subst e
      rw [List.getElem?_set_self hi]
      unfold rowH
      rw [List.getElem?_eq_getElem hi]
      rfl
    · rw [List.getElem?_set_ne e]
  intro a b g h1 h2
  rw [e] at h1 h2
  exact h a b g h1 h2
theorem dis.exch {L : List RH} (h : dis L) {i j : Nat} (hi : i < L.length) (hj : j < L.length) : dis (FFld.exch RH.nil L i j) := by
  intro a b g h1 h2
  rw [FFld.exch_get _ _ hi hj] at h1 h2
  have := h _ _ g h1 h2
  (repeat' split at this) <;> omega
theorem dis.ne {L : List RH} (h : dis L) {i j : Nat} (hi : i < L.length) (hj : j < L.length) (hne : i ≠ j) {g : Nat} (e : (rowH L i).blk = some g) : (rowH L j).blk ≠ some g := fun e2 => by
  refine hne (h i j g ?_ ?_)
  · unfold rowH at e
    rw [List.getElem?_eq_getElem hi] at e ⊢
    exact e
  · unfold rowH at e2
    rw [List.getElem?_eq_getElem hj] at e2 ⊢
    exact e2
/-- Block G has the rows L. -/
structure Mx (w : World) (G : Nat) (L : List RH) : Prop where
  cells : w.heap[G]? = some (.cells (L.map RH.val).toArray 34 (0, 0))
  ok : ∀ r ∈ L, r.ok w
theorem Mx.lt {w : World} {G : Nat} {L : List RH} (h : Mx w G L) : G < w.heap.size := (Array.getElem?_eq_some_iff.1 h.cells).1
theorem Mx.cell {w : World} {G : Nat} {L : List RH} (h : Mx w G L) {i : Nat} (hi : i < L.length) : w.cell? ⟨G, i, none⟩ = some (rowH L i).val := by
  rw [cell_of_row w G i _ _ (0, 0) h.cells]
  unfold rowH
  rw [List.getElem?_eq_getElem hi]
  simp [hi]
theorem Mx.free {w : World} {G : Nat} {L : List RH} (h : Mx w G L) (i : Nat) : w.frozen? ⟨G, i, none⟩ = false := frozen_of_row w G i _ _ h.cells
theorem Mx.grown {w w' : World} {G : Nat} {L : List RH} {row : Option Nat} (h : Mx w G L) (hg : w.grownBy w' row) (h0 : some G ≠ row) (hne : ∀ r ∈ L, ∀ g, r.blk = some g → some g ≠ row) : Mx w' G L :=
  ⟨(hg.block _ h.lt h0).trans h.cells, fun r hr => (h.ok r hr).grown hg (hne r hr)⟩
theorem Mx.below {w w' : World} {G : Nat} {L : List RH} (h : Mx w G L) (hb : Below w.heap.size w w') : Mx w' G L := h.grown (row := none) (growBelow hb) (by simp) (fun _ _ _ _ => by simp)
/-- One row has other elements, as many as before. -/
theorem Mx.set {w w' : World} {G : Nat} {L : List RH} (h : Mx w G L) {i : Nat} (hi : i < L.length) (l : List Nat) (hl : l.length = (rowH L i).xs.length) (hg : w.grownBy w' (rowH L i).blk) (h0 : some G ≠ (rowH L i).blk) (hd : dis L) (ho : ((rowH L i).put l).ok w') : Mx w' G (L.set i ((rowH L i).put l)) := by
  refine ⟨?_, fun r hr => ?_⟩
  · rw [hg.block _ h.lt h0, h.cells]
    have : (L.set i ((rowH L i).put l)).map RH.val = L.map RH.val := by
      apply List.ext_getElem?
      intro k
      rw [List.getElem?_map, List.getElem?_map]
      by_cases e : i = k
      · subst e
        rw [List.getElem?_set_self hi]
        have : ((rowH L i).put l).val = (rowH L i).val := RH.val_eq rfl rfl hl
        rw [Option.map_some, this]
        unfold rowH
        rw [List.getElem?_eq_getElem hi]
        rfl
      · rw [List.getElem?_set_ne e]
    rw [this]
  · obtain ⟨k, hk⟩ := List.mem_iff_getElem?.1 hr
    by_cases e : i = k
    · subst e
      rw [List.getElem?_set_self hi] at hk
      cases hk
      exact ho
    · rw [List.getElem?_set_ne e] at hk
      have hkl : k < L.length := (List.getElem?_eq_some_iff.1 hk).1
      have er : rowH L k = r := by unfold rowH; rw [hk]; rfl
      refine (h.ok r (List.mem_iff_getElem?.2 ⟨k, hk⟩)).grown hg (fun g hgb hc => ?_)
      rw [← er] at hgb
      exact hd.ne hi hkl e hc.symm hgb
theorem Mx.exch {w : World} {G : Nat} {L : List RH} (h : Mx w G L) {i j : Nat} (hi : i < L.length) (hj : j < L.length) (hne : ∀ r ∈ L, r.blk ≠ some G) : Mx ((w.setCell ⟨G, i, none⟩ (rowH L j).val).setCell ⟨G, j, none⟩ (rowH L i).val) G (FFld.exch RH.nil L i j) := by
  have h1 := heap_setCell_same w G i (L.map RH.val).toArray 34 (rowH L j).val h.cells
  have h2 := heap_setCell_same _ G j _ 34 (rowH L i).val h1
  have hg : w.grownBy ((w.setCell ⟨G, i, none⟩ (rowH L j).val).setCell ⟨G, j, none⟩ (rowH L i).val) (some G) := growSet (growSet (growRefl w _) i _) j _
  refine ⟨?_, fun r hr => (h.ok r (FFld.exch_mem _ _ hi hj hr)).grown hg (fun g hgb hc => hne r (FFld.exch_mem _ _ hi hj hr) (by rw [hgb, ← hc]))⟩
  rw [h2]
  have : ((L.map RH.val).toArray.setIfInBounds i (rowH L j).val).setIfInBounds j (rowH L i).val = ((FFld.exch RH.nil L i j).map RH.val).toArray := by
    simp [FFld.exch, rowH, List.map_set]
  rw [this]
/-- A matrix in block G1 and its record in block G2, both behind B and below hi. -/
structure Pr (B hi : Nat) (w : World) (G1 G2 : Nat) (L1 L2 : List RH) : Prop where
  b1 : B ≤ G1
  b2 : G1 < G2
  b3 : G2 < hi
  r1 : ∀ r ∈ L1, ∀ g, r.blk = some g → G1 < g ∧ g < G2
  r2 : ∀ r ∈ L2, ∀ g, r.blk = some g → G2 < g ∧ g < hi
  d1 : dis L1
  d2 : dis L2
  m1 : Mx w G1 L1
  m2 : Mx w G2 L2
theorem Pr.grown {B hi : Nat} {w w' : World} {G1 G2 : Nat} {L1 L2 : List RH} {row : Option Nat} (h : Pr B hi w G1 G2 L1 L2) (hg : w.grownBy w' row) (hr : ∀ k, row = some k → hi ≤ k) : Pr B hi w' G1 G2 L1 L2 := by
  have b2 := h.b2
  have b3 := h.b3
  refine { h with m1 := h.m1.grown hg (fun e => ?_) (fun r hr' g hgb e => ?_), m2 := h.m2.grown hg (fun e => ?_) (fun r hr' g hgb e => ?_) }
  · have := hr _ e.symm; omega
  · have := hr _ e.symm; have := h.r1 r hr' g hgb; omega
  · have := hr _ e.symm; omega
  · have := hr _ e.symm; have := h.r2 r hr' g hgb; omega
theorem Pr.below {B hi : Nat} {w w' : World} {G1 G2 : Nat} {L1 L2 : List RH} (h : Pr B hi w G1 G2 L1 L2) (hb : Below w.heap.size w w') : Pr B hi w' G1 G2 L1 L2 := h.grown (row := none) (growBelow hb) (fun _ e => by simp at e)
theorem put_mem {L : List RH} {i : Nat} (hi : i < L.length) {l : List Nat} {r : RH} (hr : r ∈ L.set i ((rowH L i).put l)) : ∃ s ∈ L, r.blk = s.blk := by
  obtain ⟨k, hk⟩ := List.mem_iff_getElem?.1 hr
  by_cases e : i = k
  · subst e
    rw [List.getElem?_set_self hi] at hk
    cases hk
    exact ⟨_, rowH_mem hi, rfl⟩
  · rw [List.getElem?_set_ne e] at hk
    exact ⟨r, List.mem_iff_getElem?.2 ⟨k, hk⟩, rfl⟩
theorem Pr.set1 {B hi : Nat} {w w' : World} {G1 G2 : Nat} {L1 L2 : List RH} (h : Pr B hi w G1 G2 L1 L2) {i : Nat} (hl1 : i < L1.length) (l : List Nat) (hl : l.length = (rowH L1 i).xs.length) (hg : w.grownBy w' (rowH L1 i).blk) (ho : ((rowH L1 i).put l).ok w') : Pr B hi w' G1 G2 (L1.set i ((rowH L1 i).put l)) L2 := by
  have b2 := h.b2
  have hr := h.r1 _ (rowH_mem hl1)
  refine { h with r1 := fun r hr' g hgb => ?_, d1 := h.d1.set hl1 l, m1 := h.m1.set hl1 l hl hg (fun e => ?_) h.d1 ho, m2 := h.m2.grown hg (fun e => ?_) (fun r hr' g hgb e => ?_) }
  · obtain ⟨s, hs, e⟩ := put_mem hl1 hr'
    exact h.r1 s hs g (e.symm.trans hgb)
  · have := hr _ e.symm; omega
  · have := hr _ e.symm; omega
  · have := hr _ e.symm; have := h.r2 r hr' g hgb; omega
theorem Pr.set2 {B hi : Nat} {w w' : World} {G1 G2 : Nat} {L1 L2 : List RH} (h : Pr B hi w G1 G2 L1 L2) {i : Nat} (hl1 : i < L2.length) (l : List Nat) (hl : l.length = (rowH L2 i).xs.length) (hg : w.grownBy w' (rowH L2 i).blk) (ho : ((rowH L2 i).put l).ok w') : Pr B hi w' G1 G2 L1 (L2.set i ((rowH L2 i).put l)) := by
  have b2 := h.b2
  have hr := h.r2 _ (rowH_mem hl1)
  refine { h with r2 := fun r hr' g hgb => ?_, d2 := h.d2.set hl1 l, m2 := h.m2.set hl1 l hl hg (fun e => ?_) h.d2 ho, m1 := h.m1.grown hg (fun e => ?_) (fun r hr' g hgb e => ?_) }
  · obtain ⟨s, hs, e⟩ := put_mem hl1 hr'
    exact h.r2 s hs g (e.symm.trans hgb)
  all_goals first
    | (have := hr _ e.symm; omega)
    | (have := hr _ e.symm; have := h.r1 r hr' g hgb; omega)
theorem Pr.exch1 {B hi : Nat} {w w' : World} {G1 G2 : Nat} {L1 L2 : List RH} (h : Pr B hi w G1 G2 L1 L2) {i j : Nat} (h1 : i < L1.length) (h2 : j < L1.length) (hg : w.grownBy w' (some G1)) (hm : Mx w' G1 (FFld.exch RH.nil L1 i j)) : Pr B hi w' G1 G2 (FFld.exch RH.nil L1 i j) L2 := by
  have b2 := h.b2
  refine { h with r1 := fun r hr' g hgb => h.r1 r (FFld.exch_mem _ _ h1 h2 hr') g hgb, d1 := h.d1.exch h1 h2, m1 := hm, m2 := h.m2.grown hg (fun e => ?_) (fun r hr' g hgb e => ?_) }
  · simp at e; omega
  · simp at e; have := h.r2 r hr' g hgb; omega
theorem Pr.exch2 {B hi : Nat} {w w' : World} {G1 G2 : Nat} {L1 L2 : List RH} (h : Pr B hi w G1 G2 L1 L2) {i j : Nat} (h1 : i < L2.length) (h2 : j < L2.length) (hg : w.grownBy w' (some G2)) (hm : Mx w' G2 (FFld.exch RH.nil L2 i j)) : Pr B hi w' G1 G2 L1 (FFld.exch RH.nil L2 i j) := by
  have b2 := h.b2
  refine { h with r2 := fun r hr' g hgb => h.r2 r (FFld.exch_mem _ _ h1 h2 hr') g hgb, d2 := h.d2.exch h1 h2, m2 := hm, m1 := h.m1.grown hg (fun e => ?_) (fun r hr' g hgb e => ?_) }
  · simp at e; omega
  · simp at e; have := h.r1 r hr' g hgb; omega
end Go.Proofs.Ytfhhnfpapgfnmaa

set_option linter.unusedVariables false
set_option linter.unusedSimpArgs false
namespace Go.Proofs.Ytfhhnfpapgfnmaa
open Go Go.RowKit Go.Deep
open FFld (ints)
theorem info_rows : (Try.prog.info? 34).map (fun i => (i.zero, i.size, i.bytes)) = some (some (.slice none 0 0), 1, 24) := by kernel_rfl
/-- A matrix as a value, and its box. -/
abbrev mxv (b G n : Nat) : Value := .agg #[.pointer (some ⟨b, 0, none⟩), .slice (some ⟨G, 0, none⟩) n n]
abbrev mxbox (b G n : Nat) : Obj := .cells #[.pointer (some ⟨b, 0, none⟩), .slice (some ⟨G, 0, none⟩) n n] 108
theorem made_nils (n : Nat) : madeCells #[.slice none 0 0] n = ((List.replicate n RH.nil).map RH.val).toArray := by
  apply Array.toList_inj.1
  rw [toList_madeCells_one]
  simp [RH.val, RH.nil]
theorem Mx.nils {w : World} {G n : Nat} (h : w.heap[G]? = some (.cells (madeCells #[.slice none 0 0] n) 34 (0, 0))) : Mx w G (List.replicate n RH.nil) :=
  ⟨by rw [h, made_nils], fun r hr => by rw [List.eq_of_mem_replicate hr]; rfl⟩
theorem two_end {w W : World} {g : Nat} {a b : Value} {T : TypeId} (h : W.heap[g]? = some (.cells #[a, b] T (0, 0))) (hb : Below w.heap.size w W) (hg : w.heap.size ≤ g) (a' b' : Value) :
    Below w.heap.size w ((W.setCell ⟨g, 0, none⟩ a').setCell ⟨g, 1, none⟩ b') ∧ ((W.setCell ⟨g, 0, none⟩ a').setCell ⟨g, 1, none⟩ b').cell? ⟨g, 0, none⟩ = some a' ∧ ((W.setCell ⟨g, 0, none⟩ a').setCell ⟨g, 1, none⟩ b').cell? ⟨g, 1, none⟩ = some b' := by
  obtain ⟨c0, c1, _⟩ := two_cells (two_set h a' b')
  exact ⟨(hb.setCell (p := ⟨g, 0, none⟩) hg _).setCell (p := ⟨g, 1, none⟩) hg _, c0, c1⟩
/-- Rows that the slice at ao holds. -/
def Sls (w : World) (ao : Option Addr) (rows : List (List Int)) : Prop := ∀ i, i < rows.length → ∃ (b o : Nat) (rv : Value), ao = some ⟨b, o, none⟩ ∧ b < w.heap.size ∧ w.cell? ⟨b, o + i, none⟩ = some rv ∧ Sl .i64 w rv (rows[i]?.getD [])
theorem Sls.below {w w' : World} {ao : Option Addr} {rows : List (List Int)} (h : Sls w ao rows) (hb : Below w.heap.size w w') : Sls w' ao rows := fun i hi => by
  obtain ⟨b, o, rv, e, hl, hc, hs⟩ := h i hi
  exact ⟨b, o, rv, e, Nat.lt_of_lt_of_le hl hb.size, (hb.cell (p := ⟨b, o + i, none⟩) hl).trans hc, hs.below hb⟩
theorem RH.form (r : RH) : ∃ ao n c, r.val = .slice ao n c := by
  obtain ⟨b, c, l⟩ := r
  cases b with
  | none => exact ⟨_, _, _, rfl⟩
  | some g => exact ⟨_, _, _, rfl⟩
theorem Mine.rh {B : Nat} {w : World} {v : Value} {l : List Nat} (h : Mine 3 .i64 B w v (ints l)) : ∃ r : RH, v = r.val ∧ r.xs = l ∧ r.ok w ∧ ∀ g, r.blk = some g → B ≤ g := by
  rcases h with ⟨rfl, hx⟩ | ⟨g, cap, cur, rfl, hB, hg, hn, hc, hm, ht⟩
  · have : l = [] := by
      have := congrArg List.length hx
      rw [FFld.ints_len] at this
      exact List.eq_nil_of_length_eq_zero (by simpa using this)
    subst this
    exact ⟨RH.nil, rfl, rfl, rfl, fun g hg => by cases hg⟩
  · have hM : Mine 3 .i64 B w (.slice (some ⟨g, 0, none⟩) (ints l).length cap) (ints l) := .inr ⟨g, cap, cur, rfl, hB, hg, hn, hc, hm, ht⟩
    rw [FFld.ints_len] at hn hM ⊢
    exact ⟨⟨some g, cap, l⟩, rfl, rfl, ⟨hM.wv, hn, hm⟩, fun g' e => by cases e; exact hB⟩
theorem Mx.store {w : World} {G : Nat} {L : List RH} (h : Mx w G L) {i : Nat} (hi : i < L.length) {r : RH} (hr : r.ok w) (hg : r.blk ≠ some G) (hall : ∀ s ∈ L, s.blk ≠ some G) : Mx (w.setCell ⟨G, i, none⟩ r.val) G (L.set i r) := by
  have hgr : w.grownBy (w.setCell ⟨G, i, none⟩ r.val) (some G) := growSet (growRefl w _) i _
  refine ⟨?_, fun s hs => ?_⟩
  · rw [heap_setCell_same w G i _ _ _ h.cells]
    have : (L.map RH.val).toArray.setIfInBounds i r.val = ((L.set i r).map RH.val).toArray := by simp [List.map_set]
    rw [this]
  · have : s ∈ L ∨ s = r := by
      rcases List.mem_or_eq_of_mem_set hs with h1 | h1
      · exact .inl h1
      · exact .inr h1
    rcases this with h1 | rfl
    · exact (h.ok s h1).grown hgr (fun g hgb hc => hall s h1 (by rw [hgb, hc]))
    · exact hr.grown hgr (fun g hgb hc => hg (by rw [hgb, hc]))
/-- The rows that have been copied. -/
structure CpAt (w : World) (rows : List (List Nat)) (i : Nat) (L : List RH) (W : World) : Prop where
  len : L.length = rows.length
  mx : Mx W w.heap.size L
  bel : Below w.heap.size w W
  dis : dis L
  low : ∀ r ∈ L, ∀ g, r.blk = some g → w.heap.size < g
  val : ∀ j, (rowH L j).xs = if j < i then rows[j]?.getD [] else []
theorem rowH_rep (n j : Nat) : rowH (List.replicate n RH.nil) j = RH.nil := by
  unfold rowH
  rw [List.getElem?_replicate]
  split <;> rfl
theorem dis_rep (n : Nat) : Go.Proofs.Ytfhhnfpapgfnmaa.dis (List.replicate n RH.nil) := fun i j g h => by
  rw [List.getElem?_replicate] at h
  split at h <;> cases h
theorem CpAt.start (w : World) (rows : List (List Nat)) : CpAt w rows 0 (List.replicate rows.length RH.nil) (w.alloc (.cells (madeCells #[.slice none 0 0] rows.length) 34)) :=
  ⟨by simp, Mx.nils (heap_alloc_new w _), (Below.refl _ _).alloc (Nat.le_refl _) _, dis_rep _, fun r hr g hg => (by rw [List.eq_of_mem_replicate hr] at hg; cases hg), fun j => by rw [rowH_rep, if_neg (by omega)]; rfl⟩
theorem dis.store {L : List RH} (h : dis L) (i : Nat) {r : RH} (hr : ∀ s ∈ L, ∀ g, s.blk = some g → r.blk ≠ some g) : dis (L.set i r) := by
  have old : ∀ k g, k ≠ i → (L.set i r)[k]?.bind RH.blk = some g → ∃ s ∈ L, s.blk = some g ∧ L[k]? = some s := fun k g hk e => by
    rw [List.getElem?_set_ne (fun e => hk e.symm)] at e
    cases hc : L[k]? with
    | none => rw [hc] at e; cases e
    | some s => rw [hc] at e; exact ⟨s, List.mem_iff_getElem?.2 ⟨k, hc⟩, e, rfl⟩
  have new : ∀ g, (L.set i r)[i]?.bind RH.blk = some g → r.blk = some g := fun g e => by
    by_cases hl : i < L.length
    · rw [List.getElem?_set_self hl] at e; exact e
    · rw [List.getElem?_eq_none (by simpa using hl)] at e; cases e
  intro a b g h1 h2
  by_cases ea : a = i <;> by_cases eb : b = i
  · omega
  · subst ea
    obtain ⟨s, hs, e, _⟩ := old b g eb h2
    exact absurd (new g h1) (hr s hs g e)
  · subst eb
    obtain ⟨s, hs, e, _⟩ := old a g ea h1
    exact absurd (new g h2) (hr s hs g e)
  · obtain ⟨s, hs, e, e1⟩ := old a g ea h1
    obtain ⟨t, ht, e', e2⟩ := old b g eb h2
    exact h a b g (by rw [e1]; exact e) (by rw [e2]; exact e')
theorem CpAt.next {w : World} {rows : List (List Nat)} {i : Nat} {L : List RH} {W W2 : World} (h : CpAt w rows i L W) (hi : i < rows.length) (hb : Below W.heap.size W W2) {r : RH} (hx : r.xs = rows[i]?.getD []) (ho : r.ok W2) (hr : ∀ g, r.blk = some g → W.heap.size ≤ g) : CpAt w rows (i + 1) (L.set i r) (W2.setCell ⟨w.heap.size, i, none⟩ r.val) := by
  have hG := h.mx.lt
  have hall : ∀ s ∈ L, s.blk ≠ some w.heap.size := fun s hs e => by have := h.low s hs _ e; omega
  refine ⟨by rw [List.length_set]; exact h.len, (h.mx.below hb).store (by rw [h.len]; exact hi) ho (fun e => by have := hr _ e; omega) hall, (h.bel.trans (hb.mono h.bel.size)).setCell (p := ⟨w.heap.size, i, none⟩) (Nat.le_refl _) _, h.dis.store i (fun s hs g e e2 => by have := (h.mx.ok s hs).lt e; have := hr _ e2; omega), fun s hs g e => ?_, fun j => ?_⟩
  · rcases List.mem_or_eq_of_mem_set hs with h1 | rfl
    · exact h.low s h1 g e
    · have := hr g e; omega
  · by_cases e : j = i
    · subst e
      unfold rowH
      rw [List.getElem?_set_self (by rw [h.len]; exact hi), if_pos (by omega)]
      exact hx
    · have := h.val j
      unfold rowH at this ⊢
      rw [List.getElem?_set_ne (fun e2 => e e2.symm), this]
      by_cases hl : j < i
      · rw [if_pos hl, if_pos (by omega)]
      · rw [if_neg hl, if_neg (by omega)]
/-- A matrix of one's own with these rows. -/
structure OwnM (B : Nat) (w : World) (G : Nat) (rows : List (List Nat)) (L : List RH) : Prop where
  lo : B ≤ G
  mx : Mx w G L
  dis : dis L
  low : ∀ r ∈ L, ∀ g, r.blk = some g → G < g
  val : L.map RH.xs = rows
theorem CpAt.done {w : World} {rows : List (List Nat)} {L : List RH} {W : World} (h : CpAt w rows rows.length L W) : OwnM w.heap.size W w.heap.size rows L :=
  ⟨Nat.le_refl _, h.mx, h.dis, h.low, by
    apply List.ext_getElem
    · rw [List.length_map]; exact h.len
    · intro j h1 h2
      have := h.val j
      unfold rowH at this
      rw [List.length_map] at h1
      rw [if_pos h2, List.getElem?_eq_getElem h1, List.getElem?_eq_getElem h2] at this
      rw [List.getElem_map]
      exact this⟩
/-- What copied returns. -/
def CpRet (rows : List (List Nat)) (w : World) (e : Ending) (w' : World) : Prop := Below w.heap.size w w' ∧ ∃ G L, e = .returned (.slice (some ⟨G, 0, none⟩) rows.length rows.length) ∧ OwnM w.heap.size w' G rows L
set_option maxRecDepth 20000 in
set_option maxHeartbeats 4000000 in
theorem copied_any (rows : List (List Nat)) (ao : Option Addr) (cap : Nat) (w : World) (h : Sls w ao (rows.map ints)) (hn : rows.length ≤ 1000) (hl : ∀ r ∈ rows, r.length ≤ 100000) :
    Calls Try.prog 104 #[.slice ao rows.length cap] w (CpRet rows w) := by
  obtain ⟨n, hN⟩ : ∃ n, rows.length = n := ⟨_, rfl⟩
  have hmk := run_make_row' (P := Try.prog) 49 34 (.slice none 0 0) 24 Try.underlying49 info_rows rfl .i64 .i64 n (by omega) (by omega)
  have HS := Kept.mk (CpAt.start w rows)
  have HM := Kept.mk (fun W (hW : Below w.heap.size w W) => h.below hW)
  have HL : Kept (∀ i, i < n → (rows[i]?.getD []).length ≤ 100000) := ⟨fun i hi => by rw [List.getElem?_eq_getElem (by omega)]; exact hl _ (List.getElem_mem _)⟩
  rw [hN] at HS ⊢
  have HN := Kept.mk hN
  have hn' : n ≤ 1000 := by omega
  clear h hl hN hn
  go_enter Try.func104, Try.ntmps104
  go_wp2
  go_loopw [11] (fun iv wr => ∃ (i : Nat) (L : List RH), i ≤ n ∧ iv = .int .i64 i ∧ Kept (CpAt w rows i L wr)) (fun iv _ => n - (intOf iv).toNat)
  case atStart => exact ⟨0, _, Nat.zero_le _, rfl, HS⟩
  case round =>
    obtain ⟨i, L, hin, rfl, hat⟩ := hrel
    by_cases hlt : i < n
    · obtain ⟨b, o, rv, rfl, hbl, hcell, hsl⟩ := HM.out wr hat.out.bel i (by rw [List.length_map, HN.out]; exact hlt)
      have e1 : (rows.map ints)[i]?.getD [] = ints (rows[i]?.getD []) := by rw [List.getElem?_map, List.getElem?_eq_getElem (by rw [HN.out]; exact hlt)]; rfl
      rw [e1] at hsl
      have hC := Kept.mk (clone_any hsl (by have := HL.out i hlt; rw [FFld.ints_len]; omega))
      have hGl := hat.out.mx.lt
      clear hsl e1
      go_wp2_with fail
      refine hC.out.mono ?_
      rintro e w2 ⟨hb2, v2, rfl, hm2⟩
      obtain ⟨r, rfl, hrx, hro, hrb⟩ := hm2.rh
      obtain ⟨ra, rn, rc, hrv⟩ := RH.form r
      have HNX := Kept.mk (hat.out.next (by rw [HN.out]; exact hlt) hb2 hrx hro hrb)
      rw [hrv] at HNX ⊢
      have hm3 := hat.out.mx.below hb2
      have fr := hm3.free i
      have fc := hm3.cell (i := i) (by rw [hat.out.len, HN.out]; exact hlt)
      have hGl2 := hm3.lt
      clear hrv hrx hro hrb hm2 hb2 hm3 hC
      go_wp2
      go_roundw
      case rel => exact ⟨i + 1, _, by omega, by go_num, HNX⟩
      case measure => simp [intOf] <;> omega
    · obtain rfl : i = n := by omega
      have HD := Kept.mk (show OwnM w.heap.size wr w.heap.size rows L from CpAt.done (by rw [HN.out]; exact hat.out))
      go_wp2
      go_ret
      exact ⟨hat.out.bel, w.heap.size, L, by rw [HN.out]; rfl, HD.out⟩
set_option maxRecDepth 20000 in
set_option maxHeartbeats 4000000 in
theorem unrecorded_any (b n : Nat) (w : World) (hn : n ≤ 1000) :
    Calls Try.prog 105 #[.pointer (some ⟨b, 0, none⟩), .int .i64 n] w (fun e w' => Below w.heap.size w w' ∧ ∃ G, e = .returned (mxv b G n) ∧ OwnM w.heap.size w' G (List.replicate n []) (List.replicate n RH.nil)) := by
  have hmk := run_make_row' (P := Try.prog) 49 34 (.slice none 0 0) 24 Try.underlying49 info_rows rfl .i64 .i64 n (by omega) (by omega)
  have HX0 : Kept (Bxs w [mxbox b (w.heap.size + 1) n, .cells (madeCells #[.slice none 0 0] n) 34] ((w.alloc (mxbox b (w.heap.size + 1) n)).alloc (.cells (madeCells #[.slice none 0 0] n) 34))) := ⟨((Bxs.start w).alloc (by simp) _).alloc (by simp) _⟩
  obtain ⟨e0, e1, _⟩ := two_cells HX0.out.b0
  have hm : Mx ((w.alloc (mxbox b (w.heap.size + 1) n)).alloc (.cells (madeCells #[.slice none 0 0] n) 34)) (w.heap.size + 1) (List.replicate n RH.nil) := Mx.nils HX0.out.b1
  have HO : Kept (OwnM w.heap.size ((w.alloc (mxbox b (w.heap.size + 1) n)).alloc (.cells (madeCells #[.slice none 0 0] n) 34)) (w.heap.size + 1) (List.replicate n []) (List.replicate n RH.nil)) :=
    ⟨⟨by omega, hm, dis_rep n, fun r hr g hg => (by rw [List.eq_of_mem_replicate hr] at hg; cases hg), by simp [RH.nil]⟩⟩
  clear hm
  go_enter Try.func105, Try.ntmps105
  go_wp2
  exact bodyPost_ret (v := mxv b (w.heap.size + 1) n) (by simp [results, Try.results105, go_sem, e0, e1]) rfl ⟨HX0.out.1, _, rfl, HO.out⟩
end Go.Proofs.Ytfhhnfpapgfnmaa

set_option linter.unusedVariables false
set_option linter.unusedSimpArgs false
namespace Go.Proofs.Ytfhhnfpapgfnmaa
open Go Go.RowKit Go.Deep
open FFld (ints)
set_option maxRecDepth 20000 in
set_option maxHeartbeats 4000000 in
theorem mexch_any (b G n : Nat) (L : List RH) (i j : Nat) (w : World) (hm : Mx w G L) (hL : L.length = n) (hi : i < n) (hj : j < n) (hlow : ∀ r ∈ L, r.blk ≠ some G) :
    Calls Try.prog 143 #[mxv b G n, .int .i64 i, .int .i64 j] w (fun e w' => e = .returned (.tuple #[]) ∧ w.grownBy w' (some G) ∧ Mx w' G (FFld.exch RH.nil L i j)) := by
  have hG := hm.lt
  have hb0 : Below w.heap.size w (w.alloc (mxbox b G n)) := (Below.refl _ _).alloc (Nat.le_refl _) _
  have hm0 := hm.below hb0
  obtain ⟨c0, c1, _⟩ := two_cells (heap_alloc_new w (mxbox b G n))
  have ci := hm0.cell (i := i) (by omega)
  have cj := hm0.cell (i := j) (by omega)
  have fi := hm0.free i
  have fj := hm0.free j
  have hlt := hm0.lt
  have HE := Kept.mk (hm0.exch (i := i) (j := j) (by omega) (by omega) hlow)
  have HG := Kept.mk (show w.grownBy ((((w.alloc (mxbox b G n)).setCell ⟨G, i, none⟩ (rowH L j).val)).setCell ⟨G, j, none⟩ (rowH L i).val) (some G) from growSet (growSet (growBelow hb0) _ _) _ _)
  have hm1 := hm0.store (i := i) (by omega) (hm0.ok _ (rowH_mem (i := j) (by omega))) (hlow _ (rowH_mem (i := j) (by omega))) hlow
  have cj' := hm1.cell (i := j) (by rw [List.length_set]; omega)
  rw [show rowH (L.set i (rowH L j)) j = rowH L j by
    by_cases e : i = j
    · subst e
      conv => lhs; unfold rowH
      rw [List.getElem?_set_self (by omega)]
      rfl
    · conv => lhs; unfold rowH
      rw [List.getElem?_set_ne e]
      rfl] at cj'
  have fj' := hm1.free j
  clear hm1
  obtain ⟨ai, ni, ki, hvi⟩ := RH.form (rowH L i)
  obtain ⟨aj, nj, kj, hvj⟩ := RH.form (rowH L j)
  rw [hvi, hvj] at HE HG
  rw [hvi] at ci
  rw [hvj] at cj cj' fj'
  clear hm hm0 hb0 hvi hvj hlow
  go_enter Try.func143, Try.ntmps143
  go_wp2
  obtain ⟨W0, hW0⟩ : ∃ W, w.alloc (mxbox b G n) = W := ⟨_, rfl⟩
  rw [hW0] at c0 c1 ci cj fi fj cj' fj' HE HG hlt
  rw [hW0]
  clear hW0
  go_region
  all_goals
    (go_wp2
     go_end0
     exact ⟨rfl, growTrans HG.out (growBelow (belowDrew _)), HE.out.below (belowDrew _)⟩)
end Go.Proofs.Ytfhhnfpapgfnmaa
