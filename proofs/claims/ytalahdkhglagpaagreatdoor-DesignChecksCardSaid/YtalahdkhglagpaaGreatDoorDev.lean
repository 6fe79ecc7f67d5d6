import Derived.Test.YtalahdkhglagpaaGreatDoorDkd
import Derived.Test.YtalahdkhglagpaaGreatDoorDt
set_option linter.unusedVariables false
set_option linter.unusedSimpArgs false
namespace Go.Proofs.YtalahdkhglagpaaGreatDoor
open Go Go.RowKit Go.Deep
open Dsg
theorem Mine.off {E : TypeId} {K : IntKind} {B : Nat} {w w' : World} {v : Value} {xs : List Int} {row : Option Nat} (h : Mine E K B w v xs) (hg : w.grownBy w' row) (hne : ∀ k, v.ownBlock = some k → row ≠ some k) : Mine E K B w' v xs := by
  refine h.kept hg ?_
  cases hv : v.ownBlock with
  | none => exact .inl rfl
  | some k => exact .inr fun e => hne k hv e.symm
/-- The development. -/
def dvF (v : Nat) (xs : List Int) : List (List Int) := (List.range v).map (dvL v xs)
def okDv (v : Int) (xs : List Int) : Prop := 3 ≤ v ∧ v ≤ 200 ∧ xs ≠ [] ∧ difB v xs = true
/-- What Develop answers. -/
def DvRet (v : Int) (xs : List Int) (w : World) (e : Ending) (w' : World) : Prop :=
  Below w.heap.size w w' ∧ ((okDv v xs ∧ ∃ ao cap, e = .returned (.tuple #[.slice ao v.toNat cap, .int .i64 0]) ∧ v.toNat ≤ cap ∧ cap ≤ maxLen ∧ Sls w' ao (dvF v.toNat xs)) ∨ (¬ okDv v xs ∧ e = .returned (.tuple #[.slice none 0 0, .int .i64 1])))
/-- Block G is a row of v values. -/
def Vrow (E : TypeId) (w : World) (G v : Nat) (R : Nat → Value) : Prop := w.heap[G]? = some (.cells ((List.range v).map R).toArray E (0, 0))
section
variable {E : TypeId} {w w' : World} {G v : Nat} {R : Nat → Value}
theorem Vrow.lt (h : Vrow E w G v R) : G < w.heap.size := (Array.getElem?_eq_some_iff.1 h).1
theorem Vrow.cell (h : Vrow E w G v R) {r : Nat} (hr : r < v) : w.cell? ⟨G, r, none⟩ = some (R r) := by
  rw [cell_of_row w G r _ _ (0, 0) h]; simp [hr]
theorem Vrow.free (h : Vrow E w G v R) (r : Nat) : w.frozen? ⟨G, r, none⟩ = false := frozen_of_row w G r _ _ h
theorem Vrow.set (h : Vrow E w G v R) {i : Nat} (u : Value) : Vrow E (w.setCell ⟨G, i, none⟩ u) G v (fun j => if j = i then u else R j) := by
  have := heap_setCell_same w G i _ _ u h
  unfold Vrow
  rw [this]
  congr 1
  apply congrArg (fun a => Obj.cells a E (0, 0))
  apply Array.toList_inj.1
  rw [Array.toList_setIfInBounds]
  apply List.ext_getElem
  · simp
  · intro k h1 h2
    rw [List.getElem_set]
    by_cases e : i = k
    · subst e; simp
    · rw [if_neg e]
      simp [show ¬ k = i from fun x => e x.symm]
theorem Vrow.keep (h : Vrow E w G v R) (he : w'.heap[G]? = w.heap[G]?) : Vrow E w' G v R := he.trans h
theorem Vrow.grown {row : Option Nat} (h : Vrow E w G v R) (hg : w.grownBy w' row) (hr : row ≠ some G) : Vrow E w' G v R := h.keep (hg.block G h.lt fun e => hr e.symm)
theorem Vrow.new (w : World) (v : Nat) : Vrow 40 (w.alloc (.cells (madeCells #[.slice none 0 0] v) 40)) w.heap.size v fun _ => .slice none 0 0 := by
  unfold Vrow
  rw [heap_alloc_new]
  congr 1
  apply congrArg (fun a => Obj.cells a 40 (0, 0))
  apply Array.toList_inj.1
  rw [toList_madeCells_one]
  apply List.ext_getElem <;> simp
end
/-- How far Develop has come: the first i rows are done. -/
structure Dev (v : Nat) (D : Nat → List Int) (G : Nat) (w0 : World) (R : Nat → Value) (i : Nat) (W : World) : Prop where
  row : Vrow 40 W G v R
  old : ∀ j, j < i → Mine 3 .i64 (G + 1) W (R j) (D j)
  nil : ∀ j, i < j → j < v → R j = .slice none 0 0
  bel : Below w0.heap.size w0 W
  out : w0.heap.size ≤ G
/-- The row that is under way. -/
structure Dvi (v : Nat) (D : Nat → List Int) (G : Nat) (w0 : World) (B : Nat) (R : Nat → Value) (i : Nat) (ys : List Int) (W : World) : Prop where
  dev : Dev v D G w0 R i W
  now : Mine 3 .i64 B W (R i) ys
  lt : ∀ j, j < i → ∀ k, (R j).ownBlock = some k → k < B
  gb : G < B
  bs : B ≤ W.heap.size
theorem Dvi.alloc {v : Nat} {D : Nat → List Int} {G : Nat} {w0 : World} {B : Nat} {R : Nat → Value} {i : Nat} {ys : List Int} {W : World} (h : Dvi v D G w0 B R i ys W) (o : Obj) : Dvi v D G w0 B R i ys (W.alloc o) :=
  ⟨⟨h.dev.row.grown (World.grownBy_alloc W o none) (by simp), fun j hj => (h.dev.old j hj).alloc o, h.dev.nil, h.dev.bel.alloc h.dev.bel.size _, h.dev.out⟩, h.now.alloc o, h.lt, h.gb, by have := h.bs; simp; omega⟩
theorem Dvi.drew {v : Nat} {D : Nat → List Int} {G : Nat} {w0 : World} {B : Nat} {R : Nat → Value} {i : Nat} {ys : List Int} {W : World} (h : Dvi v D G w0 B R i ys W) : Dvi v D G w0 B R i ys W.drew :=
  ⟨⟨h.dev.row, fun j hj => (h.dev.old j hj).below (belowDrew W), h.dev.nil, h.dev.bel.trans ((belowDrew W).mono h.dev.bel.size), h.dev.out⟩, h.now.below (belowDrew W), h.lt, h.gb, h.bs⟩
/-- The row under way grows, and its header is laid back. -/
theorem Dvi.next {v : Nat} {D : Nat → List Int} {G : Nat} {w0 : World} {B : Nat} {R : Nat → Value} {i : Nat} {ys zs : List Int} {W W' : World} {u : Value} (h : Dvi v D G w0 B R i ys W) (hi : i < v)
    (hm : Mine 3 .i64 B W' u zs) (hg : W.grownBy W' (R i).ownBlock) : Dvi v D G w0 B (fun j => if j = i then u else R j) i zs (W'.setCell ⟨G, i, none⟩ u) := by
  have hgs : W'.grownBy (W'.setCell ⟨G, i, none⟩ u) (some G) := growSet (growRefl _ _) _ _
  have hrow : (R i).ownBlock ≠ some G := fun e => by have := (h.now.own G e).1; have := h.gb; omega
  have hR : ∀ j, j < i → (if j = i then u else R j) = R j := fun j hj => by
    rw [if_neg (by omega)]
  refine ⟨⟨(h.dev.row.grown hg hrow).set u, fun j hj => ?_, fun j h1 h2 => ?_, ?_, h.dev.out⟩, ?_, fun j hj k hk => ?_, h.gb, ?_⟩
  · rw [hR j hj]
    refine ((h.dev.old j hj).off hg fun k hk e => ?_).off hgs fun k hk e => ?_
    · have := h.lt j hj k hk
      have := (h.now.own k e).1
      omega
    · have := ((h.dev.old j hj).own k hk).1
      cases e
      omega
  · show (if j = i then u else R j) = _
    rw [if_neg (by omega)]
    exact h.dev.nil j h1 h2
  · have hb : Below w0.heap.size w0 W' := h.dev.bel.grown hg h.dev.bel.size fun k hk => by
      have := (h.now.own k hk).1
      have := h.gb
      have := h.dev.out
      omega
    exact hb.setCell (p := ⟨G, i, none⟩) h.dev.out _
  · show Mine _ _ _ _ (if i = i then u else R i) _
    rw [if_pos rfl]
    exact hm.off hgs fun k hk e => by
      have := (hm.own k hk).1
      have := h.gb
      cases e
      omega
  · rw [hR j hj] at hk
    exact h.lt j hj k hk
  · have := h.bs
    have := hg.size
    simp [World.setCell]
    omega
theorem Dvi.done {v : Nat} {D : Nat → List Int} {G : Nat} {w0 : World} {B : Nat} {R : Nat → Value} {i : Nat} {ys : List Int} {W W' : World} (h : Dvi v D G w0 B R i ys W) (hm : Mine 3 .i64 B W' (R i) (D i)) (hg : W.grownBy W' (R i).ownBlock) : Dev v D G w0 R (i + 1) W' := by
  have hrow : (R i).ownBlock ≠ some G := fun e => by have := (h.now.own G e).1; have := h.gb; omega
  refine ⟨h.dev.row.grown hg hrow, fun j hj => ?_, fun j h1 h2 => h.dev.nil j (by omega) h2, ?_, h.dev.out⟩
  · by_cases e : j = i
    · subst e
      exact hm.lower h.gb
    · refine (h.dev.old j (by omega)).off hg fun k hk e' => ?_
      have := h.lt j (by omega) k hk
      have := (h.now.own k e').1
      omega
  · exact h.dev.bel.grown hg h.dev.bel.size fun k hk => by
      have := (h.now.own k hk).1
      have := h.gb
      have := h.dev.out
      omega
theorem Dev.start {v : Nat} {D : Nat → List Int} {G : Nat} {w0 : World} {R : Nat → Value} {i : Nat} {W : World} (h : Dev v D G w0 R i W) (hn : R i = .slice none 0 0) : Dvi v D G w0 W.heap.size R i [] W :=
  ⟨h, by rw [hn]; exact Mine.nil _ _ _ _, fun j hj k hk => ((h.old j hj).own k hk).2, h.row.lt, Nat.le_refl _⟩
theorem Dev.sls {v : Nat} {D : Nat → List Int} {G : Nat} {w0 : World} {R : Nat → Value} {W : World} (h : Dev v D G w0 R v W) : Sls W (some ⟨G, 0, none⟩) ((List.range v).map D) := by
  intro j hj
  have hj' : j < v := by simpa using hj
  refine ⟨G, 0, R j, rfl, h.row.lt, by rw [Nat.zero_add]; exact h.row.cell hj', ?_⟩
  have := (h.old j hj').sl
  simpa [hj'] using this
end Go.Proofs.YtalahdkhglagpaaGreatDoor
