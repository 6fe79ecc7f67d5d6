import Derived.Test.YtalahdkhglagpaaGreatDoorDb
set_option linter.unusedVariables false
set_option linter.unusedSimpArgs false
namespace Go.Proofs.YtalahdkhglagpaaGreatDoor
open Go Go.RowKit Go.Deep
open Dsg
set_option maxRecDepth 20000 in
set_option maxHeartbeats 1000000 in
theorem isPointCount_any (v : Int) (w : World) :
    Calls Tryz.prog 16 #[.int .i64 v] w (fun e w' => w = w' ∧ e = .returned (.bool (decide (3 ≤ v ∧ v ≤ 200)))) := by
  by_cases h3 : 3 ≤ v
  · have e1 : decide (v ≥ 3) = true := decide_eq_true h3
    have e2 : decide (3 ≤ v ∧ v ≤ 200) = decide (v ≤ 200) := by simp [h3]
    rw [e2]
    go_enter Tryz.func16, Tryz.ntmps16
    go_wp2
    go_ret
    exact ⟨rfl, rfl⟩
  · have e1 : decide (v ≥ 3) = false := decide_eq_false h3
    have e2 : decide (3 ≤ v ∧ v ≤ 200) = false := by simp [h3]
    rw [e2]
    go_enter Tryz.func16, Tryz.ntmps16
    go_wp2
    go_ret
    exact ⟨rfl, rfl⟩
theorem info_bool : (Tryz.prog.info? 4).map (fun i => (i.zero, i.size, i.bytes)) = some (some (.bool false), 1, 1) := by kernel_rfl
/-- Block g is a row of v truth values. -/
def Brow (w : World) (g v : Nat) (f : Nat → Bool) : Prop := w.heap[g]? = some (.cells ((List.range v).map fun r => Value.bool (f r)).toArray 4 (0, 0))
section
variable {w w' : World} {g v : Nat} {f : Nat → Bool}
theorem Brow.lt (h : Brow w g v f) : g < w.heap.size := (Array.getElem?_eq_some_iff.1 h).1
theorem Brow.cell (h : Brow w g v f) {r : Nat} (hr : r < v) : w.cell? ⟨g, r, none⟩ = some (.bool (f r)) := by
  rw [cell_of_row w g r _ _ (0, 0) h]; simp [hr]
theorem Brow.free (h : Brow w g v f) (r : Nat) : w.frozen? ⟨g, r, none⟩ = false := frozen_of_row w g r _ _ h
theorem Brow.set (h : Brow w g v f) {r : Nat} (hr : r < v) : Brow (w.setCell ⟨g, r, none⟩ (.bool true)) g v (fun j => f j || decide (j = r)) := by
  have := heap_setCell_same w g r _ _ (.bool true) h
  unfold Brow
  rw [this]
  congr 1
  apply congrArg (fun a => Obj.cells a 4 (0, 0))
  apply Array.toList_inj.1
  rw [Array.toList_setIfInBounds]
  apply List.ext_getElem
  · simp
  · intro i h1 h2
    rw [List.getElem_set]
    by_cases e : r = i
    · subst e; simp
    · rw [if_neg e]
      simp [show ¬ i = r from fun x => e x.symm]
theorem Brow.keep (h : Brow w g v f) (he : w'.heap[g]? = w.heap[g]?) : Brow w' g v f := he.trans h
theorem Brow.congr {f' : Nat → Bool} (h : Brow w g v f) (he : ∀ r, r < v → f r = f' r) : Brow w g v f' := by
  unfold Brow at h ⊢
  rw [h]
  congr 1
  apply congrArg (fun a => Obj.cells a 4 (0, 0))
  congr 1
  apply List.map_congr_left
  intro r hr
  rw [he r (List.mem_range.1 hr)]
theorem Brow.new (w : World) (v : Nat) : Brow (w.alloc (.cells (madeCells #[.bool false] v) 4)) w.heap.size v fun _ => false := by
  unfold Brow
  rw [heap_alloc_new]
  congr 1
  apply congrArg (fun a => Obj.cells a 4 (0, 0))
  apply Array.toList_inj.1
  rw [toList_madeCells_one]
  apply List.ext_getElem <;> simp
end
theorem drewN_add (w : World) (m q : Nat) : (w.drewN m).drewN q = w.drewN (m + q) := by
  simp [World.drewN, Nat.add_assoc]
theorem made_zero (n : Nat) : madeCells #[.int .i64 0] n = ((List.replicate n (0 : Int)).map (Value.int .i64)).toArray := by
  apply Array.toList_inj.1
  rw [toList_madeCells_one]
  simp
theorem Row.zeros (w : World) (n : Nat) : Row 3 .i64 (w.alloc (.cells (madeCells #[.int .i64 0] n) 3)) w.heap.size (List.replicate n 0) := by
  rw [made_zero]
  exact Row.new w _
/-- What IsDifference answers. -/
noncomputable def DfRet (v : Int) (xs : List Int) (w : World) : Ending → World → Prop := RB w (.tuple #[.int .i64 (dfF v xs).1, .bool (dfF v xs).2])
end Go.Proofs.YtalahdkhglagpaaGreatDoor
