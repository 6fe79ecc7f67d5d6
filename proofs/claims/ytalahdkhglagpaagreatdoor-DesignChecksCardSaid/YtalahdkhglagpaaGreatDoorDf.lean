import Derived.Test.YtalahdkhglagpaaGreatDoorDc
import Derived.Test.YtalahdkhglagpaaGreatDoorShelf
set_option linter.unusedVariables false
set_option linter.unusedSimpArgs false
namespace Go.Proofs.YtalahdkhglagpaaGreatDoor
open Go Go.RowKit Go.Deep
open Dsg
open Go.Sort (putRow putCells grow Holds)
theorem put_cells {w : World} {g : Nat} {cur : Array Value} {E : TypeId} (h : w.heap[g]? = some (.cells cur E (0, 0))) (zs : List Int) (hz : zs.length ≤ cur.size) (n : Nat) (os : Array Obj) :
    (grow (putRow (Value.int .i64) (Go.Sort.ahead w n) g 0 zs.toArray) os).heap[g]? = some (.cells (putCells (Value.int .i64) 0 zs.toArray cur) E (0, 0)) ∧ (putCells (Value.int .i64) 0 zs.toArray cur).size = cur.size ∧
      (putCells (Value.int .i64) 0 zs.toArray cur).toList.take zs.length = zs.map (Value.int .i64) ∧ w.grownBy (grow (putRow (Value.int .i64) (Go.Sort.ahead w n) g 0 zs.toArray) os) (some g) := by
  have hg : g < w.heap.size := (Array.getElem?_eq_some_iff.1 h).1
  refine ⟨?_, by simp [putCells], ?_, ⟨rfl, rfl, rfl, ?_, fun k hk hne => ?_⟩⟩
  · rw [Go.Sort.heap_grow_old _ _ (by simpa using hg)]
    simp [putRow, Go.Sort.mapBlock, Array.getElem?_modify, h, Go.Sort.onCells]
  · apply List.ext_getElem
    · simp [putCells]; omega
    · intro i h1 h2
      have hi : i < zs.length := by simpa using h2
      simp [putCells, hi]
  · simp
  · rw [Go.Sort.heap_grow_old _ _ (by simpa using hk)]
    have : ¬ g = k := fun e => hne (by rw [e])
    simp [putRow, Go.Sort.mapBlock, Array.getElem?_modify, this]
theorem Mine.holds {E : TypeId} {B g cap : Nat} {w : World} {xs : List Int} {cur : Array Value} (hg : w.heap[g]? = some (.cells cur E (0, 0))) (ht : cur.toList.take xs.length = xs.map (Value.int .i64)) : Holds (Value.int .i64) w g 0 xs.toArray := by
  intro j hj
  have hj' : j < xs.length := by simpa using hj
  rw [Nat.zero_add]
  refine ⟨?_, frozen_of_row w g j cur E hg⟩
  rw [cell_of_row w g j cur E (0, 0) hg]
  have : (cur.toList.take xs.length)[j]? = cur[j]? := by rw [List.getElem?_take, if_pos hj']; simp
  rw [← this, ht]
  simp [hj']
/-- slices.Sort of a row of one's own. -/
theorem sort_mine {E : TypeId} {B : Nat} {w : World} {v : Value} {xs : List Int} (h : Mine E .i64 B w v xs) (hne : xs ≠ []) (hn : xs.length ≤ 1000000) :
    Calls Tryz.prog 79 #[v] w fun e w' => e = .returned (.tuple #[]) ∧ Mine E .i64 B w' v (srt xs) ∧ w.grownBy w' v.ownBlock := by
  rcases h with ⟨_, hx⟩ | ⟨g, cap, cur, rfl, hB, hg, h1, h2, h3, h4⟩
  · exact absurd hx hne
  · refine (Tryz.slices_Sort_int g 0 cap xs w (Mine.holds (B := B) (cap := cap) hg h4) (Array.getElem?_eq_some_iff.1 hg).1 (by omega)).mono ?_
    rintro e w' ⟨rfl, n, os, rfl⟩
    have hl : (srt xs).length = xs.length := (srt_perm xs).length_eq
    obtain ⟨p1, p2, p3, p4⟩ := put_cells hg (srt xs) (by omega) n os
    refine ⟨rfl, .inr ⟨g, cap, _, by rw [hl], hB, p1, by omega, by omega, h3, p3⟩, p4⟩
theorem Mine.off {E : TypeId} {K : IntKind} {B : Nat} {w w' : World} {v : Value} {xs : List Int} {row : Option Nat} (h : Mine E K B w v xs) (hg : w.grownBy w' row) (hne : ∀ k, v.ownBlock = some k → row ≠ some k) : Mine E K B w' v xs := by
  refine h.kept hg ?_
  cases hv : v.ownBlock with
  | none => exact .inl rfl
  | some k => exact .inr fun e => hne k hv e.symm
end Go.Proofs.YtalahdkhglagpaaGreatDoor
