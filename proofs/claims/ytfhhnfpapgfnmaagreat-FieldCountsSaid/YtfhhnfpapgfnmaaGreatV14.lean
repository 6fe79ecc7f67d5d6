/-
  Texts of the proof, merged by program: Mb De Mc Md Mf Mg.
-/
import Derived.Test.YtfhhnfpapgfnmaaGreatV11
import Derived.Test.YtfhhnfpapgfnmaaGreatV13
import Derived.Deep.OwnRows
import Derived.BigRegion
set_option linter.unusedVariables false
set_option linter.unusedSimpArgs false
namespace Go.Proofs.YtfhhnfpapgfnmaaGreat
open Go Go.RowKit
open FFld (ints)
/-- A row of a matrix: the block that holds it (none where it has no elements), its capacity, its elements. -/
structure RH where
  blk : Option Nat
  cap : Nat
  xs : List Nat
def RH.nil : RH := ⟨none, 0, []⟩
def RH.val (r : RH) : Value := match r.blk with
  | none => .slice none 0 0
  | some g => .slice (some ⟨g, 0, none⟩) r.xs.length r.cap
def RH.ok (w : World) (r : RH) : Prop := match r.blk with
  | none => r.xs = []
  | some g => Wv w g r.xs ∧ r.xs.length ≤ r.cap ∧ r.cap ≤ maxLen
theorem Wv.grown {w w' : World} {g : Nat} {l : List Nat} {row : Option Nat} (h : Wv w g l) (hg : w.grownBy w' row) (hne : some g ≠ row) : Wv w' g l := by
  have hl := h.lt
  obtain ⟨cur, h1, h2, h3⟩ := h
  exact ⟨cur, (hg.block _ hl hne).trans h1, h2, h3⟩
theorem RH.ok.grown {w w' : World} {r : RH} {row : Option Nat} (h : r.ok w) (hg : w.grownBy w' row) (hne : ∀ g, r.blk = some g → some g ≠ row) : r.ok w' := by
  obtain ⟨b, c, l⟩ := r
  cases b with
  | none => exact h
  | some g => exact ⟨Wv.grown h.1 hg (hne g rfl), h.2⟩
theorem RH.ok.lt {w : World} {r : RH} (h : r.ok w) {g : Nat} (hg : r.blk = some g) : g < w.heap.size := by
  obtain ⟨b, c, l⟩ := r
  cases hg
  exact h.1.lt
theorem RH.val_eq {r s : RH} (hb : r.blk = s.blk) (hc : r.cap = s.cap) (hl : r.xs.length = s.xs.length) : r.val = s.val := by
  obtain ⟨b, c, l⟩ := r
  obtain ⟨b', c', l'⟩ := s
  cases hb
  cases hc
  cases b with
  | none => rfl
  | some g => simp only [RH.val]; simp only at hl; rw [hl]
def rowH (L : List RH) (i : Nat) : RH := L[i]?.getD RH.nil
theorem rowH_mem {L : List RH} {i : Nat} (h : i < L.length) : rowH L i ∈ L := by
  unfold rowH
  rw [List.getElem?_eq_getElem h]
  exact List.getElem_mem h
theorem rowH_xs (L : List RH) (i : Nat) : (rowH L i).xs = FFld.rowAt (L.map RH.xs) i := by
  unfold rowH FFld.rowAt
  rw [List.getElem?_map]
  cases L[i]? <;> rfl
/-- The same row with other elements. -/
def RH.put (r : RH) (l : List Nat) : RH := ⟨r.blk, r.cap, l⟩
/-- Rows lie in blocks of their own. -/
def dis (L : List RH) : Prop := ∀ (i j g : Nat), L[i]?.bind RH.blk = some g → L[j]?.bind RH.blk = some g → i = j
theorem dis.set {L : List RH} (h : dis L) {i : Nat} (hi : i < L.length) (l : List Nat) : dis (L.set i ((rowH L i).put l)) := by
  have e : ∀ k, (L.set i ((rowH L i).put l))[k]?.bind RH.blk = L[k]?.bind RH.blk := fun k => by
    by_cases e : i = k
    · subst e
      rw [List.getElem?_set_self hi]
      unfold rowH
      rw [List.getElem?_eq_getElem hi]
      rfl
    · rw [List.getElem?_set_ne e]
  intro a b g h1 h2
  rw [e] at h1 h2
  exact h a b g h1 h2
theorem dis.exch {L : List RH} (h : dis L) {i j : Nat} (hi : i < L.length) (hj : j < L.length) : dis (FFld.exch RH.nil L i j) := by
  intro a b g h1 h2
  rw [FFld.exch_get _ _ hi hj] at h1 h2
  have := h _ _ g h1 h2
  (repeat' split at this) <;> omega
theorem dis.ne {L : List RH} (h : dis L) {i j : Nat} (hi : i < L.length) (hj : j < L.length) (hne : i ≠ j) {g : Nat} (e : (rowH L i).blk = some g) : (rowH L j).blk ≠ some g := fun e2 => by
  refine hne (h i j g ?_ ?_)
  · unfold rowH at e
    rw [List.getElem?_eq_getElem hi] at e ⊢
    exact e
  · unfold rowH at e2
    rw [List.getElem?_eq_getElem hj] at e2 ⊢
    exact e2
/-- Block G has the rows L. -/
structure Mx (w : World) (G : Nat) (L : List RH) : Prop where
  cells : w.heap[G]? = some (.cells (L.map RH.val).toArray 35 (0, 0))
  ok : ∀ r ∈ L, r.ok w
theorem Mx.lt {w : World} {G : Nat} {L : List RH} (h : Mx w G L) : G < w.heap.size := (Array.getElem?_eq_some_iff.1 h.cells).1
theorem Mx.cell {w : World} {G : Nat} {L : List RH} (h : Mx w G L) {i : Nat} (hi : i < L.length) : w.cell? ⟨G, i, none⟩ = some (rowH L i).val := by
  rw [cell_of_row w G i _ _ (0, 0) h.cells]
  unfold rowH
  rw [List.getElem?_eq_getElem hi]
  simp [hi]
theorem Mx.free {w : World} {G : Nat} {L : List RH} (h : Mx w G L) (i : Nat) : w.frozen? ⟨G, i, none⟩ = false := frozen_of_row w G i _ _ h.cells
theorem Mx.grown {w w' : World} {G : Nat} {L : List RH} {row : Option Nat} (h : Mx w G L) (hg : w.grownBy w' row) (h0 : some G ≠ row) (hne : ∀ r ∈ L, ∀ g, r.blk = some g → some g ≠ row) : Mx w' G L :=
  ⟨(hg.block _ h.lt h0).trans h.cells, fun r hr => (h.ok r hr).grown hg (hne r hr)⟩
theorem Mx.below {w w' : World} {G : Nat} {L : List RH} (h : Mx w G L) (hb : Below w.heap.size w w') : Mx w' G L := h.grown (row := none) (growBelow hb) (by simp) (fun _ _ _ _ => by simp)
/-- One row has other elements, as many as before. -/
theorem Mx.set {w w' : World} {G : Nat} {L : List RH} (h : Mx w G L) {i : Nat} (hi : i < L.length) (l : List Nat) (hl : l.length = (rowH L i).xs.length) (hg : w.grownBy w' (rowH L i).blk) (h0 : some G ≠ (rowH L i).blk) (hd : dis L) (ho : ((rowH L i).put l).ok w') : Mx w' G (L.set i ((rowH L i).put l)) := by
  refine ⟨?_, fun r hr => ?_⟩
  · rw [hg.block _ h.lt h0, h.cells]
    have : (L.set i ((rowH L i).put l)).map RH.val = L.map RH.val := by
      apply List.ext_getElem?
      intro k
      rw [List.getElem?_map, List.getElem?_map]
      by_cases e : i = k
      · subst e
        rw [List.getElem?_set_self hi]
        have : ((rowH L i).put l).val = (rowH L i).val := RH.val_eq rfl rfl hl
        rw [Option.map_some, this]
        unfold rowH
        rw [List.getElem?_eq_getElem hi]
        rfl
      · rw [List.getElem?_set_ne e]
    rw [this]
  · obtain ⟨k, hk⟩ := List.mem_iff_getElem?.1 hr
    by_cases e : i = k
    · subst e
      rw [List.getElem?_set_self hi] at hk
      cases hk
      exact ho
    · rw [List.getElem?_set_ne e] at hk
      have hkl : k < L.length := (List.getElem?_eq_some_iff.1 hk).1
      have er : rowH L k = r := by unfold rowH; rw [hk]; rfl
      refine (h.ok r (List.mem_iff_getElem?.2 ⟨k, hk⟩)).grown hg (fun g hgb hc => ?_)
      rw [← er] at hgb
      exact hd.ne hi hkl e hc.symm hgb
theorem Mx.exch {w : World} {G : Nat} {L : List RH} (h : Mx w G L) {i j : Nat} (hi : i < L.length) (hj : j < L.length) (hne : ∀ r ∈ L, r.blk ≠ some G) : Mx ((w.setCell ⟨G, i, none⟩ (rowH L j).val).setCell ⟨G, j, none⟩ (rowH L i).val) G (FFld.exch RH.nil L i j) := by
  have h1 := heap_setCell_same w G i (L.map RH.val).toArray 35 (rowH L j).val h.cells
  have h2 := heap_setCell_same _ G j _ 35 (rowH L i).val h1
  have hg : w.grownBy ((w.setCell ⟨G, i, none⟩ (rowH L j).val).setCell ⟨G, j, none⟩ (rowH L i).val) (some G) := growSet (growSet (growRefl w _) i _) j _
  refine ⟨?_, fun r hr => (h.ok r (FFld.exch_mem _ _ hi hj hr)).grown hg (fun g hgb hc => hne r (FFld.exch_mem _ _ hi hj hr) (by rw [hgb, ← hc]))⟩
  rw [h2]
  have : ((L.map RH.val).toArray.setIfInBounds i (rowH L j).val).setIfInBounds j (rowH L i).val = ((FFld.exch RH.nil L i j).map RH.val).toArray := by
    simp [FFld.exch, rowH, List.map_set]
  rw [this]
/-- A matrix in block G1 and its record in block G2, both behind B and below hi. -/
structure Pr (B hi : Nat) (w : World) (G1 G2 : Nat) (L1 L2 : List RH) : Prop where
  b1 : B ≤ G1
  b2 : G1 < G2
  b3 : G2 < hi
  r1 : ∀ r ∈ L1, ∀ g, r.blk = some g → G1 < g ∧ g < G2
  r2 : ∀ r ∈ L2, ∀ g, r.blk = some g → G2 < g ∧ g < hi
  d1 : dis L1
  d2 : dis L2
  m1 : Mx w G1 L1
  m2 : Mx w G2 L2
theorem Pr.grown {B hi : Nat} {w w' : World} {G1 G2 : Nat} {L1 L2 : List RH} {row : Option Nat} (h : Pr B hi w G1 G2 L1 L2) (hg : w.grownBy w' row) (hr : ∀ k, row = some k → hi ≤ k) : Pr B hi w' G1 G2 L1 L2 := by
  have b2 := h.b2
  have b3 := h.b3
  refine { h with m1 := h.m1.grown hg (fun e => ?_) (fun r hr' g hgb e => ?_), m2 := h.m2.grown hg (fun e => ?_) (fun r hr' g hgb e => ?_) }
  · have := hr _ e.symm; omega
  · have := hr _ e.symm; have := h.r1 r hr' g hgb; omega
  · have := hr _ e.symm; omega
  · have := hr _ e.symm; have := h.r2 r hr' g hgb; omega
theorem Pr.below {B hi : Nat} {w w' : World} {G1 G2 : Nat} {L1 L2 : List RH} (h : Pr B hi w G1 G2 L1 L2) (hb : Below w.heap.size w w') : Pr B hi w' G1 G2 L1 L2 := h.grown (row := none) (growBelow hb) (fun _ e => by simp at e)
theorem put_mem {L : List RH} {i : Nat} (hi : i < L.length) {l : List Nat} {r : RH} (hr : r ∈ L.set i ((rowH L i).put l)) : ∃ s ∈ L, r.blk = s.blk := by
  obtain ⟨k, hk⟩ := List.mem_iff_getElem?.1 hr
  by_cases e : i = k
  · subst e
    rw [List.getElem?_set_self hi] at hk
    cases hk
    exact ⟨_, rowH_mem hi, rfl⟩
  · rw [List.getElem?_set_ne e] at hk
    exact ⟨r, List.mem_iff_getElem?.2 ⟨k, hk⟩, rfl⟩
theorem Pr.set1 {B hi : Nat} {w w' : World} {G1 G2 : Nat} {L1 L2 : List RH} (h : Pr B hi w G1 G2 L1 L2) {i : Nat} (hl1 : i < L1.length) (l : List Nat) (hl : l.length = (rowH L1 i).xs.length) (hg : w.grownBy w' (rowH L1 i).blk) (ho : ((rowH L1 i).put l).ok w') : Pr B hi w' G1 G2 (L1.set i ((rowH L1 i).put l)) L2 := by
  have b2 := h.b2
  have hr := h.r1 _ (rowH_mem hl1)
  refine { h with r1 := fun r hr' g hgb => ?_, d1 := h.d1.set hl1 l, m1 := h.m1.set hl1 l hl hg (fun e => ?_) h.d1 ho, m2 := h.m2.grown hg (fun e => ?_) (fun r hr' g hgb e => ?_) }
  · obtain ⟨s, hs, e⟩ := put_mem hl1 hr'
    exact h.r1 s hs g (e.symm.trans hgb)
  · have := hr _ e.symm; omega
  · have := hr _ e.symm; omega
  · have := hr _ e.symm; have := h.r2 r hr' g hgb; omega
theorem Pr.set2 {B hi : Nat} {w w' : World} {G1 G2 : Nat} {L1 L2 : List RH} (h : Pr B hi w G1 G2 L1 L2) {i : Nat} (hl1 : i < L2.length) (l : List Nat) (hl : l.length = (rowH L2 i).xs.length) (hg : w.grownBy w' (rowH L2 i).blk) (ho : ((rowH L2 i).put l).ok w') : Pr B hi w' G1 G2 L1 (L2.set i ((rowH L2 i).put l)) := by
  have b2 := h.b2
  have hr := h.r2 _ (rowH_mem hl1)
  refine { h with r2 := fun r hr' g hgb => ?_, d2 := h.d2.set hl1 l, m2 := h.m2.set hl1 l hl hg (fun e => ?_) h.d2 ho, m1 := h.m1.grown hg (fun e => ?_) (fun r hr' g hgb e => ?_) }
  · obtain ⟨s, hs, e⟩ := put_mem hl1 hr'
    exact h.r2 s hs g (e.symm.trans hgb)
  all_goals first
    | (have := hr _ e.symm; omega)
    | (have := hr _ e.symm; have := h.r1 r hr' g hgb; omega)
theorem Pr.exch1 {B hi : Nat} {w w' : World} {G1 G2 : Nat} {L1 L2 : List RH} (h : Pr B hi w G1 G2 L1 L2) {i j : Nat} (h1 : i < L1.length) (h2 : j < L1.length) (hg : w.grownBy w' (some G1)) (hm : Mx w' G1 (FFld.exch RH.nil L1 i j)) : Pr B hi w' G1 G2 (FFld.exch RH.nil L1 i j) L2 := by
  have b2 := h.b2
  refine { h with r1 := fun r hr' g hgb => h.r1 r (FFld.exch_mem _ _ h1 h2 hr') g hgb, d1 := h.d1.exch h1 h2, m1 := hm, m2 := h.m2.grown hg (fun e => ?_) (fun r hr' g hgb e => ?_) }
  · simp at e; omega
  · simp at e; have := h.r2 r hr' g hgb; omega
theorem Pr.exch2 {B hi : Nat} {w w' : World} {G1 G2 : Nat} {L1 L2 : List RH} (h : Pr B hi w G1 G2 L1 L2) {i j : Nat} (h1 : i < L2.length) (h2 : j < L2.length) (hg : w.grownBy w' (some G2)) (hm : Mx w' G2 (FFld.exch RH.nil L2 i j)) : Pr B hi w' G1 G2 L1 (FFld.exch RH.nil L2 i j) := by
  have b2 := h.b2
  refine { h with r2 := fun r hr' g hgb => h.r2 r (FFld.exch_mem _ _ h1 h2 hr') g hgb, d2 := h.d2.exch h1 h2, m2 := hm, m1 := h.m1.grown hg (fun e => ?_) (fun r hr' g hgb e => ?_) }
  · simp at e; omega
  · simp at e; have := h.r1 r hr' g hgb; omega
end Go.Proofs.YtfhhnfpapgfnmaaGreat

set_option linter.unusedVariables false
set_option linter.unusedSimpArgs false
namespace Go.Proofs.YtfhhnfpapgfnmaaGreat
open Go Go.RowKit
open FFld (ints)
theorem Sl.qc {w W : World} {ao : Option Addr} {k cap g : Nat} {l : List Nat} (h : Sl .i64 w (.slice ao k cap) (ints l)) (hb : Below w.heap.size w W) (hg : w.heap.size ≤ g) : Qc g ao l W := by
  obtain ⟨ao', cap', e, hc, hm, hx⟩ := h
  simp only [Value.slice.injEq] at e
  obtain ⟨rfl, e2, rfl⟩ := e
  intro i hi
  obtain ⟨b, o, e, hl, hcell⟩ := hx i (by rw [FFld.ints_len]; exact hi)
  rw [FFld.ints_get] at hcell
  exact ⟨b, o, e, by omega, Nat.lt_of_lt_of_le hl hb.size, (hb.cell (p := ⟨b, o + i, none⟩) hl).trans hcell⟩
theorem Wv.setOther {w : World} {g g' i : Nat} {l : List Nat} (h : Wv w g l) (hne : g ≠ g') (v : Value) : Wv (w.setCell ⟨g', i, none⟩ v) g l := by
  obtain ⟨cur, h1, h2, h3⟩ := h
  exact ⟨cur, (heap_setCell_other w ⟨g', i, none⟩ g v (by simpa using hne)).trans h1, h2, h3⟩
/-- What divide returns: the rest (and a quotient). -/
def DeRet (D : FFld.FD) (ql : List Nat) (inv : Nat) (pl : List Nat) (w : World) (e : Ending) (w' : World) : Prop := Below w.heap.size w w' ∧ ∃ (vq vr : Value) (qs rs : List Nat), e = .returned (.tuple #[vq, vr]) ∧ Sl .i64 w' vq (ints qs) ∧ Sl .i64 w' vr (ints rs) ∧
  if pl.length < ql.length then qs = [] ∧ rs = pl
  else qs.length = pl.length + 1 - ql.length ∧ (∀ t, t < qs.length → qs[qs.length - 1 - t]?.getD 0 = FFld.divQ D ql inv qs.length pl t) ∧
    ∃ n, n ≤ pl.length ∧ rs = (FFld.divF D ql inv qs.length pl qs.length).take n ∧ (∀ i, n ≤ i → (FFld.divF D ql inv qs.length pl qs.length)[i]?.getD 0 = 0) ∧ (n = 0 ∨ (FFld.divF D ql inv qs.length pl qs.length)[n - 1]?.getD 0 ≠ 0)
set_option maxRecDepth 20000 in
set_option maxHeartbeats 4000000 in
theorem divide_any {D : FFld.FD} {b : Nat} (hD : D.Ok) (vp vq : Value) (pl ql : List Nat) (w : World) (hf : FldB D w b) (hp : Sl .i64 w vp (ints pl)) (hq : Sl .i64 w vq (ints ql)) (hpq : ∀ a ∈ pl, a < D.p ^ D.k) (hqq : ∀ a ∈ ql, a < D.p ^ D.k)
    (hq1 : 1 ≤ ql.length) (hql : ql[ql.length - 1]?.getD 0 ≠ 0) (hpl : pl.length ≤ 100000) (hqll : ql.length ≤ 100000) :
    Calls Tryz.prog 93 #[.pointer (some ⟨b, 0, none⟩), vp, vq] w (DeRet D ql (FFld.ppow hD.pre.pk (ql[ql.length - 1]?.getD 0) (D.q - 2)) pl w) := by
  obtain ⟨ap, cp, rfl, hcp, hmp⟩ := hp.form
  obtain ⟨aq, cq, rfl, hcq, hmq⟩ := hq.form
  rw [FFld.ints_len] at hcp hcq
  have hC := Kept.mk (clone_any hp (by rw [FFld.ints_len]; omega))
  have HPS := Kept.mk hp
  have HQS := Kept.mk hq
  have HF := Kept.mk hf
  have HPQ := Kept.mk hpq
  have HQQ := Kept.mk hqq
  have HQL := Kept.mk hql
  clear hp hq hf hpq hqq hql
  rw [FFld.ints_len, FFld.ints_len] at *
  go_enter Tryz.func93, Tryz.ntmps93
  go_wp2_with fail
  refine hC.out.mono ?_
  rintro e w1 ⟨hb1, v1, rfl, hm1⟩
  obtain ⟨a1, c1, rfl, hc1, hx1⟩ := hm1.sl.form
  rw [FFld.ints_len] at hc1 hm1 ⊢
  have HB1 := Kept.mk hb1
  have HM1 := Kept.mk hm1
  clear hb1 hm1 hC
  by_cases hlt : pl.length < ql.length
  · go_wp2
    go_ret2
    refine ⟨HB1.out, _, _, [], pl, rfl, Sl.nil _ _, HM1.out.sl, ?_⟩
    rw [if_pos hlt]
    exact ⟨rfl, rfl⟩
  · obtain ⟨g, cap', ev, hgB, hgl, _, _, _, _, _⟩ := HM1.out.at (i := 0) (by rw [FFld.ints_len]; omega)
    rw [FFld.ints_len] at ev
    simp only [Value.slice.injEq, true_and] at ev
    obtain ⟨rfl, rfl⟩ := ev
    have HW1 := Kept.mk HM1.out.wv
    obtain ⟨n, hn⟩ : ∃ n, pl.length + 1 - ql.length = n := ⟨_, rfl⟩
    obtain ⟨top, htop⟩ : ∃ top, ql.length - 1 = top := ⟨_, rfl⟩
    have hn1 : 1 ≤ n := by omega
    have etop : (ql.length : Int) - 1 = top := by omega
    have en : (pl.length : Int) - top = n := by omega
    obtain ⟨bq, oq, rfl, _, _, hcell⟩ := (HQS.out.qc HB1.out hgB) top (by omega)
    have hpos : 0 < D.p ^ D.k := Nat.pow_pos hD.pre.pk.p0
    have htq := FFld.getD_lt hpos HQQ.out top
    have htn := HQL.out
    rw [htop] at htn
    obtain ⟨tc, htc⟩ : ∃ tc, ql[top]?.getD 0 = tc := ⟨_, rfl⟩
    rw [htc] at hcell htq htn
    obtain ⟨inv, hinv⟩ : ∃ inv, FFld.ppow hD.pre.pk tc (D.q - 2) = inv := ⟨_, rfl⟩
    have hinvl : inv < D.p ^ D.k := by rw [← hinv]; exact FFld.ppow_lt _ _ _
    have hI := Kept.mk (inverse_any hD tc w1 (HF.out.below HB1.out) htq htn)
    rw [hinv] at hI
    have HINV : Kept (FFld.ppow hD.pre.pk (ql[ql.length - 1]?.getD 0) (D.q - 2) = inv) := ⟨by rw [htop, htc, hinv]⟩
    have HTOP := Kept.mk htop
    have HN := Kept.mk hn
    have hlen1 : top + 1 = ql.length := by omega
    have hlen2 : n + top = pl.length := by omega
    have hbl' : b < w.heap.size := HF.out.lt
    clear hn htop htc hinv htq htn HM1
    go_wp2_with fail
    refine hI.out.mono ?_
    rintro e w2 ⟨hb2, rfl⟩
    have HB2 := Kept.mk (bstep HB1.out hb2)
    have HW2 := Kept.mk (HW1.out.below hb2)
    have hg2 : g < w2.heap.size := HW2.out.lt
    clear hb2 hcell hI HW1
    go_wp2_with (at_make; refine wpList_make_zeros _ rfl _ _ 35 rfl 3 .i64 Tryz.underlying35 info_i64 _ _ n rfl rfl (by omega) (by omega) (by omega) ?_)
    intro w3 hrow hbel
    rw [FFld.ints_rep] at hrow
    have HQ3 := Kept.mk hrow.wv
    have HW3 := Kept.mk (HW2.out.below hbel)
    have HB3 := Kept.mk (bstep HB2.out hbel)
    have hsz2 := HB2.out.size
    clear hrow hbel HW2
    obtain ⟨_, T, x, fs, fp, fw, ms, ml, hbb, ho, _, _⟩ := HF.out.open
    obtain ⟨c0, _⟩ := six_cells hbb
    have hmp := ho.mp
    have hcp := ho.cp
    have HP := Kept.mk ho.product
    clear ho hbb
    go_wp2
    go_loopw [10] (fun iv wr => ∃ (t : Nat) (z : Int) (qs : List Nat), t ≤ n ∧ iv = .int .i64 z ∧ Hid (z + 1 + t = n) ∧ qs.length = n ∧ Kept (Wv wr g (FFld.divF D ql inv n pl t)) ∧ Kept (Wv wr w2.heap.size qs) ∧ Kept (∀ t', t' < t → qs[n - 1 - t']?.getD 0 = FFld.divQ D ql inv n pl t') ∧ Kept (Below w.heap.size w wr)) (fun iv _ => (intOf iv + 1).toNat)
    case atStart => exact ⟨0, (n : Int) - 1, List.replicate n 0, Nat.zero_le _, rfl, by show (n : Int) - 1 + 1 + ((0 : Nat) : Int) = n; omega, by simp, HW3, HQ3, ⟨fun t' h => by omega⟩, HB3⟩
    case round =>
      obtain ⟨t, z, qs, ht, rfl, hz, hqs, hwv, hqv, hqa, hbl⟩ := hrel
      by_cases htn : t < n
      · obtain ⟨i, hi⟩ : ∃ i, i + 1 + t = n := ⟨n - 1 - t, by omega⟩
        obtain rfl : z = (i : Int) := by have := hz.out; omega
        have eit : n - 1 - t = i := by omega
        obtain ⟨R, hR⟩ : ∃ R, FFld.divF D ql inv n pl t = R := ⟨_, rfl⟩
        have hRl : R.length = pl.length := by rw [← hR]; exact FFld.divF_len _ _ _ _ _ _
        have HRQ := Kept.mk (FFld.divF_lt hD.pre.pk ql inv n t HPQ.out)
        rw [hR] at hwv HRQ
        obtain ⟨r, hr⟩ : ∃ r, R[i + top]?.getD 0 = r := ⟨_, rfl⟩
        obtain ⟨v, hv⟩ : ∃ v, FFld.pmul D.p D.k D.m r D.k inv = v := ⟨_, rfl⟩
        have HV : Kept (FFld.divQ D ql inv n pl t = v) := ⟨by unfold FFld.divQ; rw [hR, eit, HTOP.out, hr, hv]⟩
        have HNX : Kept (FFld.divF D ql inv n pl (t + 1) = FFld.addm D R i ql (FFld.pscl D.p D.k (D.p - 1) v)) := ⟨by simp only [FFld.divF]; rw [hR, eit, HTOP.out, hr, hv]⟩
        have hrq : r < D.p ^ D.k := by rw [← hr]; exact FFld.getD_lt hpos HRQ.out _
        have hvq : v < D.p ^ D.k := by rw [← hv]; exact FFld.pmul_lt hD.pre.pk _ _ _
        have hP := Kept.mk (fun W (hW : Below w.heap.size w W) => HP.out W hW r inv hrq hinvl)
        rw [hv] at hP
        have hNeg := Kept.mk (fun W (hW : Below w.heap.size w W) => negative_any v W (HF.out.below hW) hvq)
        have hAm := Kept.mk (fun W (hW : Below w.heap.size w W) (hwR : Wv W g R) (n' cc : Nat) (hn' : ql.length ≤ n') => addMultiple_any (s := i) (n := n') (cc := cc) (cap := cq) w W HF.out hW hgB R hwR HRQ.out ql (HQS.out.qc hW hgB) HQQ.out (by omega) hn' (FFld.pscl D.p D.k (D.p - 1) v) (FFld.pscl_lt hD.pre.pk _ _) (by omega))
        obtain ⟨nv, hnv⟩ : ∃ nv, FFld.pscl D.p D.k (D.p - 1) v = nv := ⟨_, rfl⟩
        rw [hnv] at hNeg hAm HNX
        have f1 : wr.cell? ⟨b, 0, none⟩ = some (.iface T x) := (hbl.out.cell (p := ⟨b, 0, none⟩) hbl').trans c0
        have r1 := hwv.out.cell (i := i + top) (by omega)
        rw [hr] at r1
        have hgl := hwv.out.lt
        have hgql := hqv.out.lt
        have hwrs := hbl.out.size
        have hij : IntKind.i64.wrap ((i : Int) + top) = (i : Int) + top := wi (by omega) (by omega)
        have hi1 : 0 ≤ (i : Int) + top := by omega
        have hi2 : (i : Int) + top < (pl.length : Int) := by omega
        have hi3 : ((i : Int) + top).toNat = i + top := by omega
        have hin : i < n := by omega
        clear hR hr hv hnv hRl hrq hvq hz
        go_wp2
        go_region_held3 (fun w' => w'.cell? ⟨b, 0, none⟩ = some (.iface T x) ∧ w'.cell? ⟨g, i + top, none⟩ = some (.int .i64 r))
          (first | exact ⟨f1, r1⟩ | exact ⟨k0, k1⟩ | exact ⟨l0, l1⟩ | go_keep)
          ((first
            | ((with_reducible refine (hP.out _ ?_).mono ?_); (exact (by first | exact hbl.out | exact hbl.out.drew)); rintro e w4 ⟨hb4, rfl⟩; have HB4 := Kept.mk (bstep (show Below w.heap.size w _ from (by first | exact hbl.out | exact hbl.out.drew)) hb4); have HR4 : Kept (Below wr.heap.size wr w4) := ⟨(Below.refl _ _).drew.trans hb4⟩; have k0 := (HR4.out.cell (p := ⟨b, 0, none⟩) (by simp only []; omega)).trans f1; have k1 := (HR4.out.cell (p := ⟨g, i + top, none⟩) (by simp only []; omega)).trans r1; have HWQ4 := Kept.mk (hqv.out.below HR4.out); have q4 := HWQ4.out.cell (i := i) (by omega); have z4 := HWQ4.out.free i; have l0 := (World.cell?_of_block (a := ⟨b, 0, none⟩) (heap_setCell_other w4 ⟨w2.heap.size, i, none⟩ b (.int .i64 v) (by simp; omega))).trans k0; have l1 := (World.cell?_of_block (a := ⟨g, i + top, none⟩) (heap_setCell_other w4 ⟨w2.heap.size, i, none⟩ g (.int .i64 v) (by simp; omega))).trans k1; clear hb4)))
        have hq5 := HWQ4.out.set (i := i) v
        have hw5 := (hwv.out.below HR4.out).setOther (i := i) (g' := w2.heap.size) (by omega) (.int .i64 v)
        have hb5 : Below w.heap.size w (w4.setCell ⟨w2.heap.size, i, none⟩ (.int .i64 v)) := HB4.out.setCell (p := ⟨w2.heap.size, i, none⟩) (by simp only []; omega) _
        have hql5 : (qs.set i v).length = n := by rw [List.length_set]; exact hqs
        have qc5 := hq5.cell (i := i) (by omega)
        rw [List.getElem?_set_self (by omega), Option.getD_some] at qc5
        have hs4 := HR4.out.size
        obtain ⟨W5, hW5⟩ : ∃ W, w4.setCell ⟨w2.heap.size, i, none⟩ (.int .i64 v) = W := ⟨_, rfl⟩
        rw [hW5] at hq5 hw5 hb5 qc5
        have HQ5 := Kept.mk hq5
        have HW5 := Kept.mk hw5
        have HB5 := Kept.mk hb5
        clear k0 k1 l0 l1 q4 z4 f1 r1 hij hi1 hi2 hi3 hq5 hw5 hb5 hP hgl hgql
        rw [hW5]
        clear hW5 HWQ4 HB4 HR4 hs4
        have hs1 : (i : Int) ≤ (pl.length : Int) := by omega
        have hs2 : i ≤ pl.length := by omega
        have hs3 : (0 : Int) ≤ (i : Int) := by omega
        have hs5 : (pl.length : Int) ≤ (c1 : Int) := by omega
        have hs6 : ((i : Int) < 0) = False := by simp
        go_wp2
        go_region_held3 (fun w' => w'.cell? ⟨w2.heap.size, i, none⟩ = some (.int .i64 v))
          (first | exact qc5 | exact k5 | exact k6 | go_keep)
          ((first
            | (go_at_call 108; (with_reducible refine (hNeg.out _ ?_).mono ?_); (exact (by first | exact HB5.out | exact HB5.out.drew)); rintro e w6 ⟨hb6, rfl⟩; have HB6 := Kept.mk (bstep (show Below w.heap.size w _ from (by first | exact HB5.out | exact HB5.out.drew)) hb6); have HR6 : Kept (Below W5.heap.size W5 w6) := ⟨(Below.refl _ _).drew.trans hb6⟩; have k5 := (HR6.out.cell (p := ⟨w2.heap.size, i, none⟩) (by have := HQ5.out.lt; simp only []; omega)).trans qc5; clear hb6)
            | (go_at_call 107; (with_reducible refine (hAm.out _ HB6.out (HW5.out.below HR6.out) _ _ (by omega)).mono ?_); rintro e w7 ⟨rfl, hg7, hw7⟩; have HW7 := Kept.mk hw7; have HG7 := Kept.mk hg7; have k6 := hg7.cell k5 (by simp; omega); clear hg7 hw7)))
        go_wp2
        go_roundw
        case rel => exact ⟨t + 1, (i : Int) - 1, qs.set i v, by omega, by go_num, by show (i : Int) - 1 + 1 + ((t + 1 : Nat) : Int) = n; omega, hql5, ⟨by rw [HNX.out]; exact HW7.out⟩, ⟨(HQ5.out.below HR6.out).other HG7.out (by omega)⟩, ⟨fun t' ht' => by
          by_cases e : t' = t
          · subst e
            rw [eit, List.getElem?_set_self (by omega), Option.getD_some, HV.out]
          · rw [List.getElem?_set_ne (by omega)]
            exact hqa.out t' (by omega)⟩, ⟨belowGrow HG7.out HB6.out hgB⟩⟩
        case measure => simp [intOf] <;> omega
      · obtain rfl : t = n := by omega
        obtain rfl : z = -1 := by have := hz.out; omega
        have hfl := FFld.divF_len D ql inv t pl t
        have HSR := Kept.mk (hwv.out.sl (n := pl.length) (c := c1) (by omega) hc1 hx1)
        have HSQ := Kept.mk (hqv.out.sl (n := t) (c := t) (by omega) (Nat.le_refl _) (by unfold maxLen; omega))
        have HT := Kept.mk (trimmed_any (FFld.divF D ql inv t pl t) (some ⟨g, 0, none⟩) c1 wr (by rw [hfl]; exact HSR.out))
        rw [hfl] at HT
        have HFL := Kept.mk hfl
        clear hz hfl
        go_wp2_with fail
        refine HT.out.mono ?_
        rintro e w8 ⟨rfl, m, hm, rfl, hm1, hm2⟩
        have HM1 := Kept.mk hm1
        have HM2 := Kept.mk hm2
        have HWT := Kept.mk ((hwv.out.take m).sl (n := m) (c := m) (by rw [List.length_take, HFL.out]; omega) (Nat.le_refl _) (by unfold maxLen at *; omega))
        clear hm1 hm2
        go_wp2
        go_ret2
        rw [HINV.out]
        refine ⟨hbl.out, _, _, qs, _, rfl, HSQ.out, HWT.out, ?_⟩
        rw [if_neg hlt, hqs]
        exact ⟨HN.out.symm, hqa.out, m, hm, rfl, HM1.out, HM2.out⟩
end Go.Proofs.YtfhhnfpapgfnmaaGreat

set_option linter.unusedVariables false
set_option linter.unusedSimpArgs false
namespace Go.Proofs.YtfhhnfpapgfnmaaGreat
open Go Go.RowKit Go.Deep
open FFld (ints)
theorem info_rows : (Tryz.prog.info? 35).map (fun i => (i.zero, i.size, i.bytes)) = some (some (.slice none 0 0), 1, 24) := by kernel_rfl
/-- A matrix as a value, and its box. -/
abbrev mxv (b G n : Nat) : Value := .agg #[.pointer (some ⟨b, 0, none⟩), .slice (some ⟨G, 0, none⟩) n n]
abbrev mxbox (b G n : Nat) : Obj := .cells #[.pointer (some ⟨b, 0, none⟩), .slice (some ⟨G, 0, none⟩) n n] 128
theorem made_nils (n : Nat) : madeCells #[.slice none 0 0] n = ((List.replicate n RH.nil).map RH.val).toArray := by
  apply Array.toList_inj.1
  rw [toList_madeCells_one]
  simp [RH.val, RH.nil]
theorem Mx.nils {w : World} {G n : Nat} (h : w.heap[G]? = some (.cells (madeCells #[.slice none 0 0] n) 35 (0, 0))) : Mx w G (List.replicate n RH.nil) :=
  ⟨by rw [h, made_nils], fun r hr => by rw [List.eq_of_mem_replicate hr]; rfl⟩
theorem two_end {w W : World} {g : Nat} {a b : Value} {T : TypeId} (h : W.heap[g]? = some (.cells #[a, b] T (0, 0))) (hb : Below w.heap.size w W) (hg : w.heap.size ≤ g) (a' b' : Value) :
    Below w.heap.size w ((W.setCell ⟨g, 0, none⟩ a').setCell ⟨g, 1, none⟩ b') ∧ ((W.setCell ⟨g, 0, none⟩ a').setCell ⟨g, 1, none⟩ b').cell? ⟨g, 0, none⟩ = some a' ∧ ((W.setCell ⟨g, 0, none⟩ a').setCell ⟨g, 1, none⟩ b').cell? ⟨g, 1, none⟩ = some b' := by
  obtain ⟨c0, c1, _⟩ := two_cells (two_set h a' b')
  exact ⟨(hb.setCell (p := ⟨g, 0, none⟩) hg _).setCell (p := ⟨g, 1, none⟩) hg _, c0, c1⟩
/-- Rows that the slice at ao holds. -/
def Sls (w : World) (ao : Option Addr) (rows : List (List Int)) : Prop := ∀ i, i < rows.length → ∃ (b o : Nat) (rv : Value), ao = some ⟨b, o, none⟩ ∧ b < w.heap.size ∧ w.cell? ⟨b, o + i, none⟩ = some rv ∧ Sl .i64 w rv (rows[i]?.getD [])
theorem Sls.below {w w' : World} {ao : Option Addr} {rows : List (List Int)} (h : Sls w ao rows) (hb : Below w.heap.size w w') : Sls w' ao rows := fun i hi => by
  obtain ⟨b, o, rv, e, hl, hc, hs⟩ := h i hi
  exact ⟨b, o, rv, e, Nat.lt_of_lt_of_le hl hb.size, (hb.cell (p := ⟨b, o + i, none⟩) hl).trans hc, hs.below hb⟩
theorem RH.form (r : RH) : ∃ ao n c, r.val = .slice ao n c := by
  obtain ⟨b, c, l⟩ := r
  cases b with
  | none => exact ⟨_, _, _, rfl⟩
  | some g => exact ⟨_, _, _, rfl⟩
theorem Mine.rh {B : Nat} {w : World} {v : Value} {l : List Nat} (h : Mine 3 .i64 B w v (ints l)) : ∃ r : RH, v = r.val ∧ r.xs = l ∧ r.ok w ∧ ∀ g, r.blk = some g → B ≤ g := by
  rcases h with ⟨rfl, hx⟩ | ⟨g, cap, cur, rfl, hB, hg, hn, hc, hm, ht⟩
  · have : l = [] := by
      have := congrArg List.length hx
      rw [FFld.ints_len] at this
      exact List.eq_nil_of_length_eq_zero (by simpa using this)
    subst this
    exact ⟨RH.nil, rfl, rfl, rfl, fun g hg => by cases hg⟩
  · have hM : Mine 3 .i64 B w (.slice (some ⟨g, 0, none⟩) (ints l).length cap) (ints l) := .inr ⟨g, cap, cur, rfl, hB, hg, hn, hc, hm, ht⟩
    rw [FFld.ints_len] at hn hM ⊢
    exact ⟨⟨some g, cap, l⟩, rfl, rfl, ⟨hM.wv, hn, hm⟩, fun g' e => by cases e; exact hB⟩
theorem Mx.store {w : World} {G : Nat} {L : List RH} (h : Mx w G L) {i : Nat} (hi : i < L.length) {r : RH} (hr : r.ok w) (hg : r.blk ≠ some G) (hall : ∀ s ∈ L, s.blk ≠ some G) : Mx (w.setCell ⟨G, i, none⟩ r.val) G (L.set i r) := by
  have hgr : w.grownBy (w.setCell ⟨G, i, none⟩ r.val) (some G) := growSet (growRefl w _) i _
  refine ⟨?_, fun s hs => ?_⟩
  · rw [heap_setCell_same w G i _ _ _ h.cells]
    have : (L.map RH.val).toArray.setIfInBounds i r.val = ((L.set i r).map RH.val).toArray := by simp [List.map_set]
    rw [this]
  · have : s ∈ L ∨ s = r := by
      rcases List.mem_or_eq_of_mem_set hs with h1 | h1
      · exact .inl h1
      · exact .inr h1
    rcases this with h1 | rfl
    · exact (h.ok s h1).grown hgr (fun g hgb hc => hall s h1 (by rw [hgb, hc]))
    · exact hr.grown hgr (fun g hgb hc => hg (by rw [hgb, hc]))
/-- The rows that have been copied. -/
structure CpAt (w : World) (rows : List (List Nat)) (i : Nat) (L : List RH) (W : World) : Prop where
  len : L.length = rows.length
  mx : Mx W w.heap.size L
  bel : Below w.heap.size w W
  dis : dis L
  low : ∀ r ∈ L, ∀ g, r.blk = some g → w.heap.size < g
  val : ∀ j, (rowH L j).xs = if j < i then rows[j]?.getD [] else []
theorem rowH_rep (n j : Nat) : rowH (List.replicate n RH.nil) j = RH.nil := by
  unfold rowH
  rw [List.getElem?_replicate]
  split <;> rfl
theorem dis_rep (n : Nat) : Go.Proofs.YtfhhnfpapgfnmaaGreat.dis (List.replicate n RH.nil) := fun i j g h => by
  rw [List.getElem?_replicate] at h
  split at h <;> cases h
theorem CpAt.start (w : World) (rows : List (List Nat)) : CpAt w rows 0 (List.replicate rows.length RH.nil) (w.alloc (.cells (madeCells #[.slice none 0 0] rows.length) 35)) :=
  ⟨by simp, Mx.nils (heap_alloc_new w _), (Below.refl _ _).alloc (Nat.le_refl _) _, dis_rep _, fun r hr g hg => (by rw [List.eq_of_mem_replicate hr] at hg; cases hg), fun j => by rw [rowH_rep, if_neg (by omega)]; rfl⟩
theorem dis.store {L : List RH} (h : dis L) (i : Nat) {r : RH} (hr : ∀ s ∈ L, ∀ g, s.blk = some g → r.blk ≠ some g) : dis (L.set i r) := by
  have old : ∀ k g, k ≠ i → (L.set i r)[k]?.bind RH.blk = some g → ∃ s ∈ L, s.blk = some g ∧ L[k]? = some s := fun k g hk e => by
    rw [List.getElem?_set_ne (fun e => hk e.symm)] at e
    cases hc : L[k]? with
    | none => rw [hc] at e; cases e
    | some s => rw [hc] at e; exact ⟨s, List.mem_iff_getElem?.2 ⟨k, hc⟩, e, rfl⟩
  have new : ∀ g, (L.set i r)[i]?.bind RH.blk = some g → r.blk = some g := fun g e => by
    by_cases hl : i < L.length
    · rw [List.getElem?_set_self hl] at e; exact e
    · rw [List.getElem?_eq_none (by simpa using hl)] at e; cases e
  intro a b g h1 h2
  by_cases ea : a = i <;> by_cases eb : b = i
  · omega
  · subst ea
    obtain ⟨s, hs, e, _⟩ := old b g eb h2
    exact absurd (new g h1) (hr s hs g e)
  · subst eb
    obtain ⟨s, hs, e, _⟩ := old a g ea h1
    exact absurd (new g h2) (hr s hs g e)
  · obtain ⟨s, hs, e, e1⟩ := old a g ea h1
    obtain ⟨t, ht, e', e2⟩ := old b g eb h2
    exact h a b g (by rw [e1]; exact e) (by rw [e2]; exact e')
theorem CpAt.next {w : World} {rows : List (List Nat)} {i : Nat} {L : List RH} {W W2 : World} (h : CpAt w rows i L W) (hi : i < rows.length) (hb : Below W.heap.size W W2) {r : RH} (hx : r.xs = rows[i]?.getD []) (ho : r.ok W2) (hr : ∀ g, r.blk = some g → W.heap.size ≤ g) : CpAt w rows (i + 1) (L.set i r) (W2.setCell ⟨w.heap.size, i, none⟩ r.val) := by
  have hG := h.mx.lt
  have hall : ∀ s ∈ L, s.blk ≠ some w.heap.size := fun s hs e => by have := h.low s hs _ e; omega
  refine ⟨by rw [List.length_set]; exact h.len, (h.mx.below hb).store (by rw [h.len]; exact hi) ho (fun e => by have := hr _ e; omega) hall, (h.bel.trans (hb.mono h.bel.size)).setCell (p := ⟨w.heap.size, i, none⟩) (Nat.le_refl _) _, h.dis.store i (fun s hs g e e2 => by have := (h.mx.ok s hs).lt e; have := hr _ e2; omega), fun s hs g e => ?_, fun j => ?_⟩
  · rcases List.mem_or_eq_of_mem_set hs with h1 | rfl
    · exact h.low s h1 g e
    · have := hr g e; omega
  · by_cases e : j = i
    · subst e
      unfold rowH
      rw [List.getElem?_set_self (by rw [h.len]; exact hi), if_pos (by omega)]
      exact hx
    · have := h.val j
      unfold rowH at this ⊢
      rw [List.getElem?_set_ne (fun e2 => e e2.symm), this]
      by_cases hl : j < i
      · rw [if_pos hl, if_pos (by omega)]
      · rw [if_neg hl, if_neg (by omega)]
/-- A matrix of one's own with these rows. -/
structure OwnM (B : Nat) (w : World) (G : Nat) (rows : List (List Nat)) (L : List RH) : Prop where
  lo : B ≤ G
  mx : Mx w G L
  dis : dis L
  low : ∀ r ∈ L, ∀ g, r.blk = some g → G < g
  val : L.map RH.xs = rows
theorem CpAt.done {w : World} {rows : List (List Nat)} {L : List RH} {W : World} (h : CpAt w rows rows.length L W) : OwnM w.heap.size W w.heap.size rows L :=
  ⟨Nat.le_refl _, h.mx, h.dis, h.low, by
    apply List.ext_getElem
    · rw [List.length_map]; exact h.len
    · intro j h1 h2
      have := h.val j
      unfold rowH at this
      rw [List.length_map] at h1
      rw [if_pos h2, List.getElem?_eq_getElem h1, List.getElem?_eq_getElem h2] at this
      rw [List.getElem_map]
      exact this⟩
/-- What copied returns. -/
def CpRet (rows : List (List Nat)) (w : World) (e : Ending) (w' : World) : Prop := Below w.heap.size w w' ∧ ∃ G L, e = .returned (.slice (some ⟨G, 0, none⟩) rows.length rows.length) ∧ OwnM w.heap.size w' G rows L
set_option maxRecDepth 20000 in
set_option maxHeartbeats 4000000 in
theorem copied_any (rows : List (List Nat)) (ao : Option Addr) (cap : Nat) (w : World) (h : Sls w ao (rows.map ints)) (hn : rows.length ≤ 1000) (hl : ∀ r ∈ rows, r.length ≤ 100000) :
    Calls Tryz.prog 98 #[.slice ao rows.length cap] w (CpRet rows w) := by
  obtain ⟨n, hN⟩ : ∃ n, rows.length = n := ⟨_, rfl⟩
  have hmk := run_make_row' (P := Tryz.prog) 74 35 (.slice none 0 0) 24 Tryz.underlying74 info_rows rfl .i64 .i64 n (by omega) (by omega)
  have HS := Kept.mk (CpAt.start w rows)
  have HM := Kept.mk (fun W (hW : Below w.heap.size w W) => h.below hW)
  have HL : Kept (∀ i, i < n → (rows[i]?.getD []).length ≤ 100000) := ⟨fun i hi => by rw [List.getElem?_eq_getElem (by omega)]; exact hl _ (List.getElem_mem _)⟩
  rw [hN] at HS ⊢
  have HN := Kept.mk hN
  have hn' : n ≤ 1000 := by omega
  clear h hl hN hn
  go_enter Tryz.func98, Tryz.ntmps98
  go_wp2
  go_loopw [11] (fun iv wr => ∃ (i : Nat) (L : List RH), i ≤ n ∧ iv = .int .i64 i ∧ Kept (CpAt w rows i L wr)) (fun iv _ => n - (intOf iv).toNat)
  case atStart => exact ⟨0, _, Nat.zero_le _, rfl, HS⟩
  case round =>
    obtain ⟨i, L, hin, rfl, hat⟩ := hrel
    by_cases hlt : i < n
    · obtain ⟨b, o, rv, rfl, hbl, hcell, hsl⟩ := HM.out wr hat.out.bel i (by rw [List.length_map, HN.out]; exact hlt)
      have e1 : (rows.map ints)[i]?.getD [] = ints (rows[i]?.getD []) := by rw [List.getElem?_map, List.getElem?_eq_getElem (by rw [HN.out]; exact hlt)]; rfl
      rw [e1] at hsl
      have hC := Kept.mk (clone_any hsl (by have := HL.out i hlt; rw [FFld.ints_len]; omega))
      have hGl := hat.out.mx.lt
      clear hsl e1
      go_wp2_with fail
      refine hC.out.mono ?_
      rintro e w2 ⟨hb2, v2, rfl, hm2⟩
      obtain ⟨r, rfl, hrx, hro, hrb⟩ := hm2.rh
      obtain ⟨ra, rn, rc, hrv⟩ := RH.form r
      have HNX := Kept.mk (hat.out.next (by rw [HN.out]; exact hlt) hb2 hrx hro hrb)
      rw [hrv] at HNX ⊢
      have hm3 := hat.out.mx.below hb2
      have fr := hm3.free i
      have fc := hm3.cell (i := i) (by rw [hat.out.len, HN.out]; exact hlt)
      have hGl2 := hm3.lt
      clear hrv hrx hro hrb hm2 hb2 hm3 hC
      go_wp2
      go_roundw
      case rel => exact ⟨i + 1, _, by omega, by go_num, HNX⟩
      case measure => simp [intOf] <;> omega
    · obtain rfl : i = n := by omega
      have HD := Kept.mk (show OwnM w.heap.size wr w.heap.size rows L from CpAt.done (by rw [HN.out]; exact hat.out))
      go_wp2
      go_ret
      exact ⟨hat.out.bel, w.heap.size, L, by rw [HN.out]; rfl, HD.out⟩
set_option maxRecDepth 20000 in
set_option maxHeartbeats 4000000 in
theorem unrecorded_any (b n : Nat) (w : World) (hn : n ≤ 1000) :
    Calls Tryz.prog 99 #[.pointer (some ⟨b, 0, none⟩), .int .i64 n] w (fun e w' => Below w.heap.size w w' ∧ ∃ G, e = .returned (mxv b G n) ∧ OwnM w.heap.size w' G (List.replicate n []) (List.replicate n RH.nil)) := by
  have hmk := run_make_row' (P := Tryz.prog) 74 35 (.slice none 0 0) 24 Tryz.underlying74 info_rows rfl .i64 .i64 n (by omega) (by omega)
  have HX0 : Kept (Bxs w [mxbox b (w.heap.size + 1) n, .cells (madeCells #[.slice none 0 0] n) 35] ((w.alloc (mxbox b (w.heap.size + 1) n)).alloc (.cells (madeCells #[.slice none 0 0] n) 35))) := ⟨((Bxs.start w).alloc (by simp) _).alloc (by simp) _⟩
  obtain ⟨e0, e1, _⟩ := two_cells HX0.out.b0
  have hm : Mx ((w.alloc (mxbox b (w.heap.size + 1) n)).alloc (.cells (madeCells #[.slice none 0 0] n) 35)) (w.heap.size + 1) (List.replicate n RH.nil) := Mx.nils HX0.out.b1
  have HO : Kept (OwnM w.heap.size ((w.alloc (mxbox b (w.heap.size + 1) n)).alloc (.cells (madeCells #[.slice none 0 0] n) 35)) (w.heap.size + 1) (List.replicate n []) (List.replicate n RH.nil)) :=
    ⟨⟨by omega, hm, dis_rep n, fun r hr g hg => (by rw [List.eq_of_mem_replicate hr] at hg; cases hg), by simp [RH.nil]⟩⟩
  clear hm
  go_enter Tryz.func99, Tryz.ntmps99
  go_wp2
  exact bodyPost_ret (v := mxv b (w.heap.size + 1) n) (by simp [results, Tryz.results99, go_sem, e0, e1]) rfl ⟨HX0.out.1, _, rfl, HO.out⟩
end Go.Proofs.YtfhhnfpapgfnmaaGreat

set_option linter.unusedVariables false
set_option linter.unusedSimpArgs false
namespace Go.Proofs.YtfhhnfpapgfnmaaGreat
open Go Go.RowKit Go.Deep
open FFld (ints)
set_option maxRecDepth 20000 in
set_option maxHeartbeats 4000000 in
theorem mexch_any (b G n : Nat) (L : List RH) (i j : Nat) (w : World) (hm : Mx w G L) (hL : L.length = n) (hi : i < n) (hj : j < n) (hlow : ∀ r ∈ L, r.blk ≠ some G) :
    Calls Tryz.prog 110 #[mxv b G n, .int .i64 i, .int .i64 j] w (fun e w' => e = .returned (.tuple #[]) ∧ w.grownBy w' (some G) ∧ Mx w' G (FFld.exch RH.nil L i j)) := by
  have hG := hm.lt
  have hb0 : Below w.heap.size w (w.alloc (mxbox b G n)) := (Below.refl _ _).alloc (Nat.le_refl _) _
  have hm0 := hm.below hb0
  obtain ⟨c0, c1, _⟩ := two_cells (heap_alloc_new w (mxbox b G n))
  have ci := hm0.cell (i := i) (by omega)
  have cj := hm0.cell (i := j) (by omega)
  have fi := hm0.free i
  have fj := hm0.free j
  have hlt := hm0.lt
  have HE := Kept.mk (hm0.exch (i := i) (j := j) (by omega) (by omega) hlow)
  have HG := Kept.mk (show w.grownBy ((((w.alloc (mxbox b G n)).setCell ⟨G, i, none⟩ (rowH L j).val)).setCell ⟨G, j, none⟩ (rowH L i).val) (some G) from growSet (growSet (growBelow hb0) _ _) _ _)
  have hm1 := hm0.store (i := i) (by omega) (hm0.ok _ (rowH_mem (i := j) (by omega))) (hlow _ (rowH_mem (i := j) (by omega))) hlow
  have cj' := hm1.cell (i := j) (by rw [List.length_set]; omega)
  rw [show rowH (L.set i (rowH L j)) j = rowH L j by
    by_cases e : i = j
    · subst e
      conv => lhs; unfold rowH
      rw [List.getElem?_set_self (by omega)]
      rfl
    · conv => lhs; unfold rowH
      rw [List.getElem?_set_ne e]
      rfl] at cj'
  have fj' := hm1.free j
  clear hm1
  obtain ⟨ai, ni, ki, hvi⟩ := RH.form (rowH L i)
  obtain ⟨aj, nj, kj, hvj⟩ := RH.form (rowH L j)
  rw [hvi, hvj] at HE HG
  rw [hvi] at ci
  rw [hvj] at cj cj' fj'
  clear hm hm0 hb0 hvi hvj hlow
  go_enter Tryz.func110, Tryz.ntmps110
  go_wp2
  obtain ⟨W0, hW0⟩ : ∃ W, w.alloc (mxbox b G n) = W := ⟨_, rfl⟩
  rw [hW0] at c0 c1 ci cj fi fj cj' fj' HE HG hlt
  rw [hW0]
  clear hW0
  go_region
  all_goals
    (go_wp2
     go_end0
     exact ⟨rfl, growTrans HG.out (growBelow (belowDrew _)), HE.out.below (belowDrew _)⟩)
end Go.Proofs.YtfhhnfpapgfnmaaGreat

set_option linter.unusedVariables false
set_option linter.unusedSimpArgs false
namespace Go.Proofs.YtfhhnfpapgfnmaaGreat
open Go Go.RowKit Go.Deep
open FFld (ints)
theorem RH.ok.form {w : World} {r : RH} (h : r.ok w) : ∃ c, r.val = .slice (r.blk.map fun g => ⟨g, 0, none⟩) r.xs.length c ∧ r.xs.length ≤ c ∧ c ≤ maxLen := by
  obtain ⟨b, c, l⟩ := r
  cases b with
  | none =>
    have : l = [] := h
    subst this
    exact ⟨0, rfl, Nat.le_refl _, Nat.zero_le _⟩
  | some g => exact ⟨c, rfl, h.2.1, h.2.2⟩
theorem RH.ok.blk1 {w : World} {r : RH} (h : r.ok w) (hl : 0 < r.xs.length) : ∃ g, r.blk = some g ∧ Wv w g r.xs := by
  obtain ⟨b, c, l⟩ := r
  cases b with
  | none =>
    have : l = [] := h
    subst this
    simp at hl
  | some g => exact ⟨g, rfl, h.1⟩
set_option maxRecDepth 20000 in
set_option maxHeartbeats 1000000 in
/-- Nothing is added. -/
theorem addMultiple_nil (b : Nat) (ao : Option Addr) (n : Nat) (k : Nat) (ad : Option Addr) (cap : Nat) (a : Nat) (w : World) :
    Calls Tryz.prog 107 #[.pointer (some ⟨b, 0, none⟩), .slice ao n k, .slice ad 0 cap, .int .i64 a] w (fun e w' => e = .returned (.tuple #[]) ∧ w = w') := by
  by_cases a0 : a = 0
  · subst a0
    have e0 : (((0 : Nat) : Int) == 0) = true := rfl
    go_enter Tryz.func107, Tryz.ntmps107
    go_wp2
    exact bodyPost_ret (v := .tuple #[]) (by simp [results, Tryz.results107, go_sem]) rfl ⟨rfl, rfl⟩
  · have e0 : ((a : Int) == 0) = false := by rw [beq_eq_false_iff_ne]; omega
    clear a0
    go_enter Tryz.func107, Tryz.ntmps107
    go_wp2
    go_loopw [14] (fun iv wr => iv = .int .i64 0 ∧ w = wr) (fun iv _ => 0)
    case atStart => exact ⟨rfl, rfl⟩
    case round =>
      obtain ⟨rfl, rfl⟩ := hrel
      go_wp2
      go_end0
      exact ⟨rfl, rfl⟩
theorem RH.qc {w : World} {s : RH} (h : s.ok w) {g : Nat} (hne : s.blk ≠ some g) : Qc g (s.blk.map fun g => ⟨g, 0, none⟩) s.xs w := fun i hi => by
  obtain ⟨g2, e, hw⟩ := h.blk1 (by omega)
  refine ⟨g2, 0, by rw [e]; rfl, fun e2 => hne (by rw [e, e2]), hw.lt, ?_⟩
  rw [Nat.zero_add]
  exact hw.cell hi
/-- addMultiple on rows. -/
theorem addMultiple_rh {D : FFld.FD} {b : Nat} (w0 w : World) (hf : FldB D w0 b) (hb : Below w0.heap.size w0 w) (r s : RH) (hr : r.ok w) (hs : s.ok w) (hlow : ∀ g, r.blk = some g → w0.heap.size ≤ g) (hne : ∀ g, r.blk = some g → s.blk ≠ some g)
    (hl : s.xs.length ≤ r.xs.length) (hrq : ∀ a ∈ r.xs, a < D.p ^ D.k) (hsq : ∀ a ∈ s.xs, a < D.p ^ D.k) (a : Nat) (ha : a < D.p ^ D.k) (hsl : s.xs.length ≤ 1000000) :
    Calls Tryz.prog 107 #[.pointer (some ⟨b, 0, none⟩), r.val, s.val, .int .i64 a] w (fun e w' => e = .returned (.tuple #[]) ∧ w.grownBy w' r.blk ∧ (r.put (FFld.addm D r.xs 0 s.xs a)).ok w') := by
  obtain ⟨c2, hv2, hc2, hm2⟩ := hs.form
  rw [hv2]
  cases hbk : r.blk with
  | none =>
    have hx : r.xs = [] := by
      obtain ⟨bk, c, l⟩ := r
      cases hbk
      exact hr
    have hs0 : s.xs = [] := List.eq_nil_of_length_eq_zero (by rw [hx] at hl; simpa using hl)
    have hv : r.val = .slice none 0 0 := by unfold RH.val; rw [hbk]
    rw [hv, hs0]
    refine (addMultiple_nil b none 0 0 _ c2 a w).mono ?_
    rintro e w' ⟨rfl, rfl⟩
    refine ⟨rfl, growRefl _ _, ?_⟩
    rw [hx]
    unfold RH.ok RH.put
    rw [hbk]
    rfl
  | some g =>
    obtain ⟨hw, hc1, hm1⟩ : Wv w g r.xs ∧ r.xs.length ≤ r.cap ∧ r.cap ≤ maxLen := by
      obtain ⟨bk, c, l⟩ := r
      cases hbk
      exact hr
    have hv : r.val = .slice (some ⟨g, 0, none⟩) r.xs.length r.cap := by unfold RH.val; rw [hbk]
    rw [hv]
    refine (addMultiple_any (s := 0) (n := r.xs.length) (cc := r.cap) w0 w hf hb (hlow g hbk) r.xs hw hrq s.xs (RH.qc hs (hne g hbk)) hsq (by omega) hl a ha hsl).mono ?_
    rintro e w' ⟨rfl, hg, hw'⟩
    refine ⟨rfl, hg, ?_⟩
    unfold RH.ok RH.put
    rw [hbk]
    exact ⟨hw', by rw [FFld.addm_len]; exact hc1, hm1⟩
set_option maxRecDepth 20000 in
set_option maxHeartbeats 4000000 in
theorem msub_any {D : FFld.FD} {b G n i j : Nat} (w0 w : World) (hf : FldB D w0 b) (hb : Below w0.heap.size w0 w) (L : List RH) (hm : Mx w G L) (hL : L.length = n) (hi : i < n) (hj : j < n) (hij : i ≠ j) (hd : dis L) (ri rj : RH) (hri : rowH L i = ri) (hrj : rowH L j = rj)
    (hlow : ∀ g, ri.blk = some g → w0.heap.size ≤ g ∧ g ≠ G) (hl : rj.xs.length ≤ ri.xs.length) (hiq : ∀ a ∈ ri.xs, a < D.p ^ D.k) (hjq : ∀ a ∈ rj.xs, a < D.p ^ D.k) (hll : rj.xs.length ≤ 1000000) (t : Nat) (ht : t < D.p ^ D.k) :
    Calls Tryz.prog 112 #[mxv b G n, .int .i64 i, .int .i64 j, .int .i64 t] w (fun e w' => e = .returned (.tuple #[]) ∧ w.grownBy w' ri.blk ∧ (ri.put (FFld.addm D ri.xs 0 rj.xs (FFld.negF D t))).ok w') := by
  have hpk := hf.ok.pre.pk
  have hb0 : Below w.heap.size w (w.alloc (mxbox b G n)) := (Below.refl _ _).alloc (Nat.le_refl _) _
  have hm0 := hm.below hb0
  obtain ⟨c0, c1, _⟩ := two_cells (heap_alloc_new w (mxbox b G n))
  have ci := hm0.cell (i := i) (by omega)
  have cj := hm0.cell (i := j) (by omega)
  have hoi := hm0.ok _ (rowH_mem (i := i) (by omega))
  have hoj := hm0.ok _ (rowH_mem (i := j) (by omega))
  have hne : ∀ g, ri.blk = some g → rj.blk ≠ some g := fun g e => by rw [← hrj]; exact hd.ne (by omega) (by omega) hij (by rw [hri]; exact e)
  have hbw0 : Below w0.heap.size w0 (w.alloc (mxbox b G n)) := hb.trans (hb0.mono hb.size)
  have hlt := hm0.lt
  have hns : w.heap.size < (w.alloc (mxbox b G n)).heap.size := by simp
  have hG := hm.lt
  rw [hri] at ci hoi
  rw [hrj] at cj hoj
  obtain ⟨W0, hW0⟩ : ∃ W, w.alloc (mxbox b G n) = W := ⟨_, rfl⟩
  rw [hW0] at c0 c1 ci cj hoi hoj hbw0 hlt hns hb0
  have HN := Kept.mk (fun W (hW : Below W0.heap.size W0 W) => negative_any t W (hf.below (hbw0.trans (hW.mono hbw0.size))) ht)
  have HA := Kept.mk (fun W (hW : Below W0.heap.size W0 W) => addMultiple_rh w0 W hf (hbw0.trans (hW.mono hbw0.size)) ri rj (hoi.grown (row := none) (growBelow hW) (fun _ _ => by simp)) (hoj.grown (row := none) (growBelow hW) (fun _ _ => by simp)) (fun g e => (hlow g e).1) hne hl hiq hjq (FFld.pscl D.p D.k (D.p - 1) t) (FFld.pscl_lt hpk _ _) hll)
  obtain ⟨nt, hnt⟩ : ∃ nt, FFld.pscl D.p D.k (D.p - 1) t = nt := ⟨_, rfl⟩
  have HT : Kept (FFld.negF D t = nt) := ⟨hnt⟩
  rw [hnt] at HN HA
  obtain ⟨ai, ni, ki, hvi⟩ := RH.form ri
  obtain ⟨aj, nj, kj, hvj⟩ := RH.form rj
  rw [hvi] at ci HA
  rw [hvj] at cj HA
  have HB0 := Kept.mk hb0
  have HNB : Kept (some w.heap.size ≠ ri.blk) := ⟨fun e => by have := (hm.ok _ (rowH_mem (i := i) (by omega))).lt (by rw [hri]; exact e.symm); omega⟩
  have HNG : Kept (some G ≠ ri.blk) := ⟨fun e => (hlow _ e.symm).2 rfl⟩
  rw [HT.out]
  clear hm hm0 hb0 hvi hvj hlow hd hf hb hoi hoj hne hbw0 hl hiq hjq hll ht hnt hri hrj hpk
  go_enter Tryz.func112, Tryz.ntmps112
  go_wp2
  try rw [hW0]
  clear hW0
  go_region_held3 (fun w' => w'.cell? ⟨w.heap.size, 0, none⟩ = some (.pointer (some ⟨b, 0, none⟩)) ∧ w'.cell? ⟨w.heap.size, 1, none⟩ = some (.slice (some ⟨G, 0, none⟩) n n) ∧ w'.cell? ⟨G, i, none⟩ = some (.slice ai ni ki) ∧ w'.cell? ⟨G, j, none⟩ = some (.slice aj nj kj))
    (first | exact ⟨c0, c1, ci, cj⟩ | exact ⟨k0, k1, k2, k3⟩ | exact ⟨l0, l1, l2, l3⟩ | go_keep)
    ((first
      | (go_at_call 108; (with_reducible refine (HN.out _ ?_).mono ?_); (exact (by first | exact Below.refl _ _ | exact (Below.refl _ _).drew)); rintro e w2 ⟨hb2, rfl⟩; have HB2 := Kept.mk (show Below W0.heap.size W0 w2 from (by first | exact hb2 | exact (Below.refl _ _).drew.trans hb2)); have k0 := belowCell HB2.out c0; have k1 := belowCell HB2.out c1; have k2 := belowCell HB2.out ci; have k3 := belowCell HB2.out cj; clear hb2)
      | (go_at_call 107; (with_reducible refine (HA.out _ HB2.out).mono ?_); rintro e w3 ⟨rfl, hg3, ho3⟩; have HG3 := Kept.mk (growTrans (growBelow HB2.out) hg3); have HO3 := Kept.mk ho3; have l0 := HG3.out.cell c0 HNB.out; have l1 := HG3.out.cell c1 HNB.out; have l2 := HG3.out.cell ci HNG.out; have l3 := HG3.out.cell cj HNG.out; clear hg3 ho3)))
  go_wp2
  go_end0
  exact ⟨rfl, growTrans (growBelow HB0.out) HG3.out, HO3.out⟩
end Go.Proofs.YtfhhnfpapgfnmaaGreat

set_option linter.unusedVariables false
set_option linter.unusedSimpArgs false
namespace Go.Proofs.YtfhhnfpapgfnmaaGreat
open Go Go.RowKit Go.Deep
open FFld (ints)
/-- Other elements, as many as before. -/
theorem RH.ok.next {w w' : World} {r : RH} {l l' : List Nat} (h : (r.put l).ok w) {g : Nat} (hg : r.blk = Option.some g) (hw : Wv w' g l') (hl : l'.length = l.length) : (r.put l').ok w' := by
  obtain ⟨b, c, l0⟩ := r
  cases hg
  exact ⟨hw, (show l'.length ≤ c by rw [hl]; exact h.2.1), h.2.2⟩
set_option maxRecDepth 20000 in
set_option maxHeartbeats 4000000 in
theorem mmul_any {D : FFld.FD} {b G n i : Nat} (w0 w : World) (hf : FldB D w0 b) (hb : Below w0.heap.size w0 w) (L : List RH) (hm : Mx w G L) (hL : L.length = n) (hi : i < n) (r : RH) (hr : rowH L i = r) (hG0 : w0.heap.size ≤ G)
    (hlow : ∀ g, r.blk = some g → w0.heap.size ≤ g ∧ g ≠ G) (hq : ∀ a ∈ r.xs, a < D.p ^ D.k) (hll : r.xs.length ≤ 1000000) (c : Nat) (hc : c < D.p ^ D.k) :
    Calls Tryz.prog 111 #[mxv b G n, .int .i64 i, .int .i64 c] w (fun e w' => e = .returned (.tuple #[]) ∧ w.grownBy w' r.blk ∧ (r.put (FFld.rowMul D r.xs c)).ok w') := by
  obtain ⟨h, T, x, fs, fp, fw, ms, ml, hbb, ho, _, _⟩ := hf.open
  have hpk := h.pre.pk
  obtain ⟨fc0, _⟩ := six_cells hbb
  have hbl : b < w0.heap.size := hf.lt
  have HP := Kept.mk ho.product
  have hmp := ho.mp
  have hcp := ho.cp
  have hb0 : Below w.heap.size w (w.alloc (mxbox b G n)) := (Below.refl _ _).alloc (Nat.le_refl _) _
  have hm0 := hm.below hb0
  obtain ⟨c0, c1, _⟩ := two_cells (heap_alloc_new w (mxbox b G n))
  have ci := hm0.cell (i := i) (by omega)
  have hoi := hm0.ok _ (rowH_mem (i := i) (by omega))
  rw [hr] at ci hoi
  have hbw0 : Below w0.heap.size w0 (w.alloc (mxbox b G n)) := hb.trans (hb0.mono hb.size)
  have hns : w.heap.size < (w.alloc (mxbox b G n)).heap.size := by simp
  have hG := hm.lt
  have hws := hb.size
  have HNB : Kept (∀ g, r.blk = some g → g < w.heap.size) := ⟨fun g e => (hm.ok _ (rowH_mem (i := i) (by omega))).lt (by rw [hr]; exact e)⟩
  obtain ⟨W0, hW0⟩ : ∃ W, w.alloc (mxbox b G n) = W := ⟨_, rfl⟩
  rw [hW0] at c0 c1 ci hoi hbw0 hns hb0
  obtain ⟨cap, hv, hc1, hm1⟩ := hoi.form
  obtain ⟨len, hlen⟩ : ∃ len, r.xs.length = len := ⟨_, rfl⟩
  rw [hv, hlen] at ci
  rw [hlen] at hll hc1
  have HST : Kept ((r.put (FFld.rowMulF D r.xs c 0)).ok W0) := ⟨hoi⟩
  have HQ := Kept.mk (fun j => FFld.rowMulF_lt (D := D) hpk (l := r.xs) c j hq)
  have HLN := Kept.mk hlen
  have HB0 := Kept.mk hb0
  have HBW := Kept.mk hbw0
  have HLOW := Kept.mk hlow
  have HALL := Kept.mk (FFld.rowMulF_all D r.xs c)
  have hpos : 0 < D.p ^ D.k := Nat.pow_pos hpk.p0
  unfold maxLen at hm1
  clear hm hm0 hb0 hv hlow hf hb hoi hbw0 hq hlen hbb ho hr
  go_enter Tryz.func111, Tryz.ntmps111
  go_wp2
  try rw [hW0]
  clear hW0
  go_loopw [14] (fun iv wr => ∃ (j : Nat), j ≤ len ∧ iv = .int .i64 j ∧ Kept ((r.put (FFld.rowMulF D r.xs c j)).ok wr) ∧ Kept (W0.grownBy wr r.blk)) (fun iv _ => len - (intOf iv).toNat)
  case atStart => exact ⟨0, Nat.zero_le _, rfl, HST, ⟨growRefl _ _⟩⟩
  case round =>
    obtain ⟨j, hj, rfl, hok, hgr⟩ := hrel
    by_cases hlt : j < len
    · have hml := FFld.rowMulF_len D r.xs c j
      rw [HLN.out] at hml
      obtain ⟨g, hg, hwv⟩ := hok.out.blk1 (by show 0 < (FFld.rowMulF D r.xs c j).length; omega)
      have hg' : r.blk = some g := hg
      have hwv' : Wv wr g (FFld.rowMulF D r.xs c j) := hwv
      have hgl := HNB.out g hg'
      obtain ⟨hg0, hgG⟩ := HLOW.out g hg'
      rw [hg'] at hgr
      have HBX := Kept.mk (belowGrow hgr.out HBW.out hg0)
      have f0 : wr.cell? ⟨b, 0, none⟩ = some (.iface T x) := (HBX.out.cell (p := ⟨b, 0, none⟩) hbl).trans fc0
      have f1 : wr.cell? ⟨w.heap.size, 0, none⟩ = some (.pointer (some ⟨b, 0, none⟩)) := hgr.out.cell c0 (by simp; omega)
      have f2 : wr.cell? ⟨w.heap.size, 1, none⟩ = some (.slice (some ⟨G, 0, none⟩) n n) := hgr.out.cell c1 (by simp; omega)
      have f3 : wr.cell? ⟨G, i, none⟩ = some (.slice (r.blk.map fun g => ⟨g, 0, none⟩) len cap) := hgr.out.cell ci (by simp; omega)
      rw [hg'] at f3 ⊢
      simp only [Option.map_some] at f3 ⊢
      obtain ⟨a, ha⟩ : ∃ a, (FFld.rowMulF D r.xs c j)[j]?.getD 0 = a := ⟨_, rfl⟩
      have hab : a < D.p ^ D.k := by rw [← ha]; exact FFld.getD_lt hpos (HQ.out j) j
      obtain ⟨v, hv⟩ : ∃ v, FFld.pmul D.p D.k D.m a D.k c = v := ⟨_, rfl⟩
      have HV : Kept ((FFld.rowMulF D r.xs c j).set j v = FFld.rowMulF D r.xs c (j + 1)) := ⟨by simp only [FFld.rowMulF]; rw [ha, hv]⟩
      have fa := hwv'.cell (i := j) (by omega)
      rw [ha] at fa
      have hP := Kept.mk (fun W (hW : Below w0.heap.size w0 W) => HP.out W hW a c hab hc)
      rw [hv] at hP
      have HWV := Kept.mk hwv'
      have hgwr := hwv'.lt
      have hsz := hgr.out.size
      have hjc : j < cap := by omega
      clear ha hv hab hml hwv hwv' hg
      go_wp2
      go_region_held3 (fun w' => w'.cell? ⟨b, 0, none⟩ = some (.iface T x) ∧ w'.cell? ⟨w.heap.size, 0, none⟩ = some (.pointer (some ⟨b, 0, none⟩)) ∧ w'.cell? ⟨w.heap.size, 1, none⟩ = some (.slice (some ⟨G, 0, none⟩) n n) ∧ w'.cell? ⟨G, i, none⟩ = some (.slice (some ⟨g, 0, none⟩) len cap))
        (first | exact ⟨f0, f1, f2, f3⟩ | exact ⟨k0, k1, k2, k3⟩ | exact ⟨l0, l1, l2, l3⟩ | go_keep)
        ((first
          | ((with_reducible refine (hP.out _ ?_).mono ?_); (exact (by first | exact HBX.out | exact HBX.out.drew)); rintro e w4 ⟨hb4, rfl⟩; have HB4 := Kept.mk (bstep (show Below w0.heap.size w0 _ from (by first | exact HBX.out | exact HBX.out.drew)) hb4); have HR4 : Kept (Below wr.heap.size wr w4) := ⟨by first | exact hb4 | exact (Below.refl _ _).drew.trans hb4⟩; have k0 := belowCell HR4.out f0; have k1 := belowCell HR4.out f1; have k2 := belowCell HR4.out f2; have k3 := belowCell HR4.out f3; have HW4 := Kept.mk (HWV.out.below HR4.out); have q4 := belowCell HR4.out fa; have z4 := HW4.out.free j; have l0 := (World.cell?_of_block (a := ⟨b, 0, none⟩) (heap_setCell_other w4 ⟨g, j, none⟩ b (.int .i64 v) (by simp; omega))).trans k0; have l1 := (World.cell?_of_block (a := ⟨w.heap.size, 0, none⟩) (heap_setCell_other w4 ⟨g, j, none⟩ w.heap.size (.int .i64 v) (by simp; omega))).trans k1; have l2 := (World.cell?_of_block (a := ⟨w.heap.size, 1, none⟩) (heap_setCell_other w4 ⟨g, j, none⟩ w.heap.size (.int .i64 v) (by simp; omega))).trans k2; have l3 := (World.cell?_of_block (a := ⟨G, i, none⟩) (heap_setCell_other w4 ⟨g, j, none⟩ G (.int .i64 v) (by simp; omega))).trans k3; clear hb4)))
      go_wp2
      go_roundw
      case rel => exact ⟨j + 1, by omega, by go_num, ⟨by have hw5 := HW4.out.set (i := j) v; rw [HV.out] at hw5; exact RH.ok.next hok.out hg' hw5 (by rw [FFld.rowMulF_len, FFld.rowMulF_len])⟩, ⟨growTrans hgr.out (growSet (growBelow HR4.out) _ _)⟩⟩
      case measure => simp [intOf] <;> omega
    · obtain rfl : j = len := by omega
      have HEND : Kept ((r.put (FFld.rowMul D r.xs c)).ok wr) := ⟨by rw [← HALL.out, HLN.out]; exact hok.out⟩
      go_wp2
      go_end0
      exact ⟨rfl, growTrans (growBelow HB0.out) hgr.out, HEND.out⟩
end Go.Proofs.YtfhhnfpapgfnmaaGreat
