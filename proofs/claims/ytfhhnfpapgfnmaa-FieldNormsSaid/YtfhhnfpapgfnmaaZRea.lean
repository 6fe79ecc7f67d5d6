/-
  Texts of the proof, merged by program: Rea.
-/
import Derived.Test.YtfhhnfpapgfnmaaMro
import Derived.Test.YtfhhnfpapgfnmaaEch
import Derived.Test.YtfhhnfpapgfnmaaZ20
set_option linter.unusedVariables false
set_option linter.unusedSimpArgs false
namespace Go.Proofs.Ytfhhnfpapgfnmaa
namespace FFld
/-- What the reference takes off a row is what the program adds to it. -/
theorem take_off {D : FD} (h : PK D.p D.k D.m) {t y : Nat} (ht : t < D.p ^ D.k) (hy : y < D.p ^ D.k) : pscl D.p D.k (D.p - 1) (pmul D.p D.k D.m t D.k y) = pmul D.p D.k D.m y D.k (negF D t) := by
  unfold negF
  rw [pmul_comm h _ _ hy (pscl_lt h _ _), pmul_scl h]
theorem negF_zero {D : FD} (h : PK D.p D.k D.m) : negF D 0 = 0 := pscl_nil h _
theorem addmF_none {D : FD} (h : PK D.p D.k D.m) {xs : List Nat} (q : List Nat) (hx : ∀ a ∈ xs, a < D.p ^ D.k) (hq : ∀ a ∈ q, a < D.p ^ D.k) (hl : q.length ≤ xs.length) : ∀ j, j ≤ q.length → addmF D xs 0 q 0 j = xs
  | 0, _ => rfl
  | j + 1, hj => by
    simp only [addmF]
    rw [addmF_none h q hx hq hl j (by omega), Nat.zero_add]
    rw [pmul_zero_right h, padd_zero h _ (getD_lt (Nat.pow_pos h.p0) hx j)]
    apply List.ext_getElem?
    intro i
    by_cases e : j = i
    · subst e
      rw [List.getElem?_set_self (by omega), List.getElem?_eq_getElem (by omega)]
      rfl
    · rw [List.getElem?_set_ne e]
theorem rowAt_set_self {A : List (List Nat)} {i : Nat} (hi : i < A.length) : A.set i (rowAt A i) = A := by
  unfold rowAt
  apply List.ext_getElem?
  intro k
  by_cases e : i = k
  · subst e
    rw [List.getElem?_set_self hi, List.getElem?_eq_getElem hi]
    rfl
  · rw [List.getElem?_set_ne e]
theorem rowAt_put {A : List (List Nat)} {i : Nat} (hi : i < A.length) (r : List Nat) : rowAt (A.set i r) i = r := by
  unfold rowAt
  rw [List.getElem?_set_self hi]
  rfl
theorem rowAt_put_ne {A : List (List Nat)} {i j : Nat} (h : i ≠ j) (r : List Nat) : rowAt (A.set i r) j = rowAt A j := by
  unfold rowAt
  rw [List.getElem?_set_ne h]
/-- A row that is 0 in the column stays as it is. -/
theorem subAt_none {D : FD} (h : PK D.p D.k D.m) {n : Nat} {A : List (List Nat)} (hw : Wfm D n A) {i j : Nat} (hi : i < A.length) (hj : j < A.length) : subAt D A i j 0 = A := by
  unfold subAt addm
  rw [negF_zero h, addmF_none h (rowAt A j) (rowAt_lt hw i) (rowAt_lt hw j) (by rw [(hw.row hi).1, (hw.row hj).1]; exact Nat.le_refl _) _ (Nat.le_refl _), rowAt_set_self hi]
/-- With a pivot in every row nothing changes any more. -/
theorem stepF_full {D : FD} (h : PK D.p D.k D.m) (c : Nat) {s : ESt} (hs : s.cols.length = s.A.length) : stepF D h c s = s := by
  unfold stepF
  simp only
  rw [hs, Nat.sub_self]
  simp only [piv]
  rw [if_pos trivial]
theorem elimF_full {D : FD} (h : PK D.p D.k D.m) (s : ESt) (c : Nat) (hs : (elimF D h s c).cols.length = (elimF D h s c).A.length) : ∀ d, elimF D h s (c + d) = elimF D h s c
  | 0 => rfl
  | d + 1 => by
    show stepF D h (c + d) (elimF D h s (c + d)) = _
    rw [elimF_full h s c hs d, stepF_full h _ hs]
theorem subsF_fst (D : FD) (top c : Nat) (A R R' : List (List Nat)) : ∀ i, (subsF D top c (A, R) i).1 = (subsF D top c (A, R') i).1
  | 0 => rfl
  | i + 1 => by
    simp only [subsF]
    split
    · exact subsF_fst D top c A R R' i
    · simp only [subsF_fst D top c A R R' i]
end FFld
open Go Go.RowKit Go.Deep
open FFld (ints)
/-- The rows lie in blocks of their own. -/
def DisR (L : List (Value × List Int)) : Prop := ∀ (i j g : Nat), L[i]?.bind (fun r => r.1.ownBlock) = some g → L[j]?.bind (fun r => r.1.ownBlock) = some g → i = j
theorem DisR.nil : DisR [] := fun i j g h => by simp at h
theorem DisR.push {L : List (Value × List Int)} (h : DisR L) {r : Value × List Int} (hr : ∀ g, r.1.ownBlock = some g → ∀ s ∈ L, s.1.ownBlock ≠ some g) : DisR (L ++ [r]) := by
  have key : ∀ i g, (L ++ [r])[i]?.bind (fun r => r.1.ownBlock) = some g → (i < L.length ∧ L[i]?.bind (fun r => r.1.ownBlock) = some g) ∨ (i = L.length ∧ r.1.ownBlock = some g) := fun i g e => by
    by_cases hi : i < L.length
    · rw [List.getElem?_append_left hi] at e
      exact .inl ⟨hi, e⟩
    · by_cases he : i = L.length
      · subst he
        rw [List.getElem?_append_right (Nat.le_refl _), Nat.sub_self] at e
        exact .inr ⟨rfl, e⟩
      · rw [List.getElem?_eq_none (by simp; omega)] at e
        cases e
  have old : ∀ i g, i < L.length → L[i]?.bind (fun r => r.1.ownBlock) = some g → r.1.ownBlock ≠ some g := fun i g hi e e2 => by
    rw [List.getElem?_eq_getElem hi] at e
    exact hr g e2 _ (List.getElem_mem hi) e
  intro i j g h1 h2
  rcases key i g h1 with ⟨a1, b1⟩ | ⟨a1, b1⟩ <;> rcases key j g h2 with ⟨a2, b2⟩ | ⟨a2, b2⟩
  · exact h i j g b1 b2
  · exact absurd b2 (old i g a1 b1)
  · exact absurd b1 (old j g a2 b2)
  · omega
/-- Block G holds the headers of n rows of wd elements each, the row i in the block H i. -/
structure Mat (B : Nat) (w : World) (G n wd : Nat) (H C : Nat → Nat) (A : List (List Nat)) : Prop where
  len : A.length = n
  hdr : ∃ cur, w.heap[G]? = some (.cells cur 34 (0, 0)) ∧ ∀ i, i < n → cur[i]? = some (.slice (some ⟨H i, 0, none⟩) wd (C i))
  row : ∀ i, i < n → Wv w (H i) (FFld.rowAt A i)
  wid : ∀ i, i < n → (FFld.rowAt A i).length = wd
  cap : ∀ i, i < n → wd ≤ C i ∧ C i ≤ maxLen
  low : ∀ i, i < n → B ≤ H i ∧ H i ≠ G
  dis : ∀ i j, i < n → j < n → H i = H j → i = j
  gB : B ≤ G
section
variable {B : Nat} {w w' : World} {G n wd : Nat} {H C : Nat → Nat} {A : List (List Nat)}
theorem Mat.lt (h : Mat B w G n wd H C A) : G < w.heap.size := by
  obtain ⟨cur, h1, _⟩ := h.hdr
  exact (Array.getElem?_eq_some_iff.1 h1).1
theorem Mat.cell (h : Mat B w G n wd H C A) {i : Nat} (hi : i < n) : w.cell? ⟨G, i, none⟩ = some (.slice (some ⟨H i, 0, none⟩) wd (C i)) := by
  obtain ⟨cur, h1, h2⟩ := h.hdr
  rw [cell_of_row w G i cur _ (0, 0) h1]
  exact h2 i hi
theorem Mat.free (h : Mat B w G n wd H C A) (i : Nat) : w.frozen? ⟨G, i, none⟩ = false := by
  obtain ⟨cur, h1, _⟩ := h.hdr
  exact frozen_of_row w G i cur _ h1
theorem Mat.el (h : Mat B w G n wd H C A) {i j : Nat} (hi : i < n) (hj : j < wd) : w.cell? ⟨H i, j, none⟩ = some (.int .i64 (FFld.cellAt A i j : Nat)) := (h.row i hi).cell (by rw [h.wid i hi]; exact hj)
theorem Mat.below (h : Mat B w G n wd H C A) (hb : Below w.heap.size w w') : Mat B w' G n wd H C A := by
  have hl := h.lt
  obtain ⟨cur, h1, h2⟩ := h.hdr
  exact ⟨h.len, ⟨cur, (hb.block _ hl).trans h1, h2⟩, fun i hi => (h.row i hi).below hb, h.wid, h.cap, h.low, h.dis, h.gB⟩
theorem grow_set (w : World) (g i : Nat) (v : Value) : w.grownBy (w.setCell ⟨g, i, none⟩ v) (some g) := growSet (growRefl _ _) _ _
/-- An element of a row is written. -/
theorem Mat.put (h : Mat B w G n wd H C A) {i : Nat} (hi : i < n) (j v : Nat) : Mat B (w.setCell ⟨H i, j, none⟩ (.int .i64 v)) G n wd H C (A.set i ((FFld.rowAt A i).set j v)) := by
  have hl := h.lt
  have hil : i < A.length := by rw [h.len]; exact hi
  obtain ⟨cur, h1, h2⟩ := h.hdr
  have hg := grow_set w (H i) j (.int .i64 (v : Nat))
  refine ⟨by rw [List.length_set]; exact h.len, ⟨cur, (hg.block _ hl (fun e => (h.low i hi).2 (Option.some.inj e).symm)).trans h1, h2⟩, fun k hk => ?_, fun k hk => ?_, h.cap, h.low, h.dis, h.gB⟩
  · by_cases e : i = k
    · subst e
      rw [FFld.rowAt_put hil]
      exact (h.row i hi).set v
    · rw [FFld.rowAt_put_ne e]
      exact (h.row k hk).other hg (fun e2 => e (h.dis k i hk hi e2).symm)
  · by_cases e : i = k
    · subst e
      rw [FFld.rowAt_put hil, List.length_set]
      exact h.wid i hi
    · rw [FFld.rowAt_put_ne e]
      exact h.wid k hk
def swapN (i j k : Nat) : Nat := if k = j then i else if k = i then j else k
theorem rowAt_ex {A : List (List Nat)} {i j : Nat} (hi : i < A.length) (hj : j < A.length) (k : Nat) : FFld.rowAt (FFld.exch [] A i j) k = FFld.rowAt A (swapN i j k) := by
  unfold FFld.rowAt
  rw [FFld.exch_get [] A hi hj]
  rfl
theorem swapN_lt {i j k n : Nat} (hi : i < n) (hj : j < n) (hk : k < n) : swapN i j k < n := by
  unfold swapN
  split
  · exact hi
  · split
    · exact hj
    · exact hk
theorem swapN_inj {i j k l : Nat} (h : swapN i j k = swapN i j l) : k = l := by
  unfold swapN at h
  (repeat' split at h) <;> omega
/-- Two rows are exchanged: first the place j is written, then the place i. -/
theorem Mat.swap (h : Mat B w G n wd H C A) {i j : Nat} (hi : i < n) (hj : j < n) : Mat B ((w.setCell ⟨G, j, none⟩ (.slice (some ⟨H i, 0, none⟩) wd (C i))).setCell ⟨G, i, none⟩ (.slice (some ⟨H j, 0, none⟩) wd (C j))) G n wd (fun k => H (swapN i j k)) (fun k => C (swapN i j k)) (FFld.exch [] A i j) := by
  have hil : i < A.length := by rw [h.len]; exact hi
  have hjl : j < A.length := by rw [h.len]; exact hj
  obtain ⟨cur, h1, h2⟩ := h.hdr
  have hci : i < cur.size := (Array.getElem?_eq_some_iff.1 (h2 i hi)).1
  have hcj : j < cur.size := (Array.getElem?_eq_some_iff.1 (h2 j hj)).1
  have g1 := grow_set w G j (.slice (some ⟨H i, 0, none⟩) wd (C i))
  have hg := growTrans g1 (grow_set _ G i (.slice (some ⟨H j, 0, none⟩) wd (C j)))
  have k1 := heap_setCell_same w G j cur _ (.slice (some ⟨H i, 0, none⟩) wd (C i)) h1
  have k2 := heap_setCell_same _ G i _ _ (.slice (some ⟨H j, 0, none⟩) wd (C j)) k1
  refine ⟨by rw [FFld.exch_len]; exact h.len, ⟨_, k2, fun k hk => ?_⟩, fun k hk => ?_, fun k hk => ?_, fun k hk => h.cap _ (swapN_lt hi hj hk), fun k hk => h.low _ (swapN_lt hi hj hk), fun k l hk hl e => swapN_inj (h.dis _ _ (swapN_lt hi hj hk) (swapN_lt hi hj hl) e), h.gB⟩
  · rw [Array.getElem?_setIfInBounds]
    by_cases e : i = k
    · subst e
      rw [if_pos rfl, if_pos (by simpa using hci)]
      unfold swapN
      by_cases e2 : i = j
      · subst e2; rw [if_pos rfl]
      · rw [if_neg e2, if_pos rfl]
    · rw [if_neg e, Array.getElem?_setIfInBounds]
      by_cases e2 : j = k
      · subst e2
        rw [if_pos rfl, if_pos hcj]
        unfold swapN
        rw [if_pos rfl]
      · rw [if_neg e2, h2 k hk]
        unfold swapN
        rw [if_neg (fun e => e2 e.symm), if_neg (fun e2 => e e2.symm)]
  · rw [rowAt_ex hil hjl]
    exact (h.row _ (swapN_lt hi hj hk)).other hg (h.low _ (swapN_lt hi hj hk)).2
  · rw [rowAt_ex hil hjl]
    exact h.wid _ (swapN_lt hi hj hk)
theorem Mat.sls (h : Mat B w G n wd H C A) {k : Nat} (hk : k ≤ n) : Sls w (some ⟨G, 0, none⟩) ((A.take k).map ints) := fun i hi => by
  have hi' : i < k := by rw [List.length_map, List.length_take] at hi; omega
  have hr : ((A.take k).map ints)[i]?.getD [] = ints (FFld.rowAt A i) := by
    rw [List.getElem?_map, List.getElem?_take, if_pos hi']
    unfold FFld.rowAt
    cases A[i]? <;> rfl
  rw [hr]
  refine ⟨G, 0, .slice (some ⟨H i, 0, none⟩) wd (C i), rfl, h.lt, ?_, (h.row i (by omega)).sl (h.wid i (by omega)).symm (h.cap i (by omega)).1 (h.cap i (by omega)).2⟩
  rw [Nat.zero_add]
  exact h.cell (by omega)
end
def hdB (v : Value) : Nat := v.ownBlock.getD 0
def hdC : Value → Nat | .slice _ _ c => c | _ => 0
def valAt (L : List (Value × List Int)) (i : Nat) : Value := (L[i]?.getD (.slice none 0 0, [])).1
/-- Rows that were copied are a matrix in blocks of its own. -/
theorem Rws.mat {D : FFld.FD} {B : Nat} {w : World} {v : Value} {L : List (Value × List Int)} {rows : List (List Nat)} {n wd : Nat} (h : Rws B w v L) (hd : DisR L) (he : L.map (·.2) = rows.map ints) (hw : FFld.Wfm D wd rows) (hn : rows.length = n) (h1 : 0 < n) (h2 : 0 < wd) :
    ∃ G cap H C, v = .slice (some ⟨G, 0, none⟩) n cap ∧ n ≤ cap ∧ cap ≤ maxLen ∧ Mat B w G n wd H C rows := by
  have hLn : L.length = n := by
    have e := congrArg List.length he
    rw [List.length_map, List.length_map] at e
    rw [e, hn]
  have row : ∀ i, i < n → ∃ g c, L[i]? = some (.slice (some ⟨g, 0, none⟩) wd c, ints (FFld.rowAt rows i)) ∧ B ≤ g ∧ g < w.heap.size ∧ wd ≤ c ∧ c ≤ maxLen ∧ Mine 3 .i64 B w (.slice (some ⟨g, 0, none⟩) wd c) (ints (FFld.rowAt rows i)) := fun i hi => by
    have hi' : i < L.length := by omega
    have hm := h.ok _ (List.getElem_mem hi')
    have e2 : (L[i]'hi').2 = ints (FFld.rowAt rows i) := by
      have e := congrArg (fun l => l[i]?) he
      simp only [List.getElem?_map] at e
      rw [List.getElem?_eq_getElem hi', List.getElem?_eq_getElem (by omega)] at e
      unfold FFld.rowAt
      rw [List.getElem?_eq_getElem (by omega)]
      exact Option.some.inj e
    rw [e2] at hm
    have hl : (ints (FFld.rowAt rows i)).length = wd := by rw [FFld.ints_len]; exact (hw.row (by omega)).1
    obtain ⟨g, c, ev, hB, hg, hc1, hc2, _⟩ := hm.at (i := 0) (by rw [hl]; exact h2)
    rw [hl] at ev hc1
    refine ⟨g, c, ?_, hB, hg, hc1, hc2, ?_⟩
    · rw [List.getElem?_eq_getElem hi', ← e2, ← ev]
    · rw [← ev]; exact hm
  rcases h.own with ⟨_, e⟩ | ⟨G, cap, cur, rfl, hBG, hG, hc1, hc2, hc3, ht⟩
  · have : L.length = 0 := by have := congrArg List.length e; simpa using this
    omega
  · have hml : (L.map (·.1)).length = n := by rw [List.length_map, hLn]
    rw [hml] at hc1 ht ⊢
    refine ⟨G, cap, fun i => hdB (valAt L i), fun i => hdC (valAt L i), rfl, hc1, hc3, ?_⟩
    have hv : ∀ i, i < n → ∃ g c, valAt L i = .slice (some ⟨g, 0, none⟩) wd c ∧ hdB (valAt L i) = g ∧ hdC (valAt L i) = c := fun i hi => by
      obtain ⟨g, c, e, _⟩ := row i hi
      refine ⟨g, c, ?_, ?_, ?_⟩ <;> (unfold valAt; rw [e]; rfl)
    have hown : ∀ i, i < n → L[i]?.bind (fun r => r.1.ownBlock) = some (hdB (valAt L i)) := fun i hi => by
      obtain ⟨g, c, e, _⟩ := row i hi
      unfold valAt
      rw [e]
      rfl
    refine ⟨hn, ⟨cur, hG, fun i hi => ?_⟩, fun i hi => ?_, fun i hi => (hw.row (by omega)).1, fun i hi => ?_, fun i hi => ?_, fun i j hi hj e => hd i j _ (hown i hi) (by rw [hown j hj]; exact congrArg some e.symm), hBG⟩
    · obtain ⟨g, c, e, r1, r2⟩ := hv i hi
      have h3 : (cur.toList.take n)[i]? = cur[i]? := by rw [List.getElem?_take, if_pos hi]; simp
      rw [← h3, ht, List.getElem?_map]
      obtain ⟨g2, c2, e2, _⟩ := row i hi
      rw [e2]
      unfold valAt
      rw [e2]
      rfl
    · obtain ⟨g, c, e, r1, r2, r3, r4, r5⟩ := row i hi
      have : hdB (valAt L i) = g := by unfold valAt; rw [e]; rfl
      rw [this]
      exact r5.wv
    · obtain ⟨g, c, e, r1, r2, r3, r4, r5⟩ := row i hi
      have : hdC (valAt L i) = c := by unfold valAt; rw [e]; rfl
      rw [this]
      exact ⟨r3, r4⟩
    · obtain ⟨g, c, e, r1, r2, r3, r4, r5⟩ := row i hi
      have e3 : hdB (valAt L i) = g := by unfold valAt; rw [e]; rfl
      rw [e3]
      refine ⟨r1, fun e4 => ?_⟩
      subst e4
      have := h.ne (.slice (some ⟨g, 0, none⟩) wd c, ints (FFld.rowAt rows i)) (List.mem_iff_getElem?.2 ⟨i, e⟩) g rfl
      exact this rfl
end Go.Proofs.Ytfhhnfpapgfnmaa
