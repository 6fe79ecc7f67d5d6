/-
  The reference counts pairs in another order; a square of counts in memory.
-/
import Derived.Test.YtalahdkhglagpaaGreatDoorDkf
import Derived.Test.YtalahdkhglagpaaGreatDoorDkb
import Derived.Test.YtalahdkhglagpaaGreatDoorDka
set_option linter.unusedVariables false
set_option linter.unusedSimpArgs false
namespace Go.Proofs.YtalahdkhglagpaaGreatDoor
open Go Go.RowKit Go.Deep
open Dsg Dqr
theorem smn_append {α : Type} (f : α → Nat) (l m : List α) : smn f (l ++ m) = smn f l + smn f m := by
  induction l with
  | nil => simp [smn]
  | cons x t ih => simp only [List.cons_append, smn, ih]; omega
theorem count_map' {α : Type} (g : α → Nat) (t : Nat) : ∀ l : List α, (l.map g).count t = smn (fun a => if g a = t then 1 else 0) l
  | [] => rfl
  | a :: l => by
    rw [List.map_cons, List.count_cons, count_map' g t l]
    simp only [smn]
    by_cases h : g a = t
    · rw [if_pos h, if_pos (by simp [h])]; omega
    · rw [if_neg h, if_neg (by simp [h])]; omega
theorem count_flatMap' {α : Type} (f : α → List Nat) (t : Nat) : ∀ l : List α, (l.flatMap f).count t = smn (fun a => (f a).count t) l
  | [] => rfl
  | a :: l => by rw [List.flatMap_cons, List.count_append, count_flatMap' f t l]; rfl
theorem smn_take {n i : Nat} (f : Nat → Nat) : smn f ((List.range n).take i) = smn (fun j => if j < i then f j else 0) (List.range n) := by
  conv => rhs; rw [← List.take_append_drop i (List.range n)]
  rw [smn_append, smn_congr (f := fun j => if j < i then f j else 0) (g := f) (l := (List.range n).take i) (fun j hj => ?_), smn_congr (f := fun j => if j < i then f j else 0) (g := fun _ => 0) (l := (List.range n).drop i) (fun j hj => ?_), smn_const]
  · omega
  · cases i with
    | zero => exact if_neg (by omega)
    | succ i => exact if_neg (by have := (drop_range.1 hj).1; omega)
  · obtain ⟨k, hk, e⟩ := List.mem_take_iff_getElem.1 hj
    rw [List.getElem_range] at e
    rw [List.length_range] at hk
    exact if_pos (by omega)
theorem smn_drop {n i : Nat} (f : Nat → Nat) : smn f ((List.range n).drop (i + 1)) = smn (fun j => if i < j then f j else 0) (List.range n) := by
  conv => rhs; rw [← List.take_append_drop (i + 1) (List.range n)]
  rw [smn_append, smn_congr (f := fun j => if i < j then f j else 0) (g := f) (l := (List.range n).drop (i + 1)) (fun j hj => ?_), smn_congr (f := fun j => if i < j then f j else 0) (g := fun _ => 0) (l := (List.range n).take (i + 1)) (fun j hj => ?_), smn_const]
  · omega
  · obtain ⟨k, hk, e⟩ := List.mem_take_iff_getElem.1 hj
    rw [List.getElem_range] at e
    rw [List.length_range] at hk
    exact if_neg (by omega)
  · exact if_pos (by have := (drop_range.1 hj).1; omega)
theorem list_get (xs : List Int) : xs = (List.range xs.length).map fun j => xs[j]?.getD 0 := by
  apply List.ext_getElem
  · simp
  · intro i h1 h2
    simp [h1]
/-- The pairs of a block in the reference's order. -/
def rl (v : Nat) (xs : List Int) (i j : Nat) : List Nat := (List.range i).flatMap (fun t => (xs.take t).map fun x => ix v x (xs[t]?.getD 0)) ++ (xs.take j).map fun x => ix v x (xs[i]?.getD 0)
def rlF (v : Nat) (xs : List Int) : List Nat := rl v xs xs.length 0
theorem rl_zero (v : Nat) (xs : List Int) : rl v xs 0 0 = [] := by simp [rl]
theorem rl_in {v : Nat} {xs : List Int} {i j : Nat} (hj : j < xs.length) : rl v xs i (j + 1) = rl v xs i j ++ [ix v (xs[j]?.getD 0) (xs[i]?.getD 0)] := by
  unfold rl
  rw [List.take_add_one, List.map_append, List.getElem?_eq_getElem hj]
  simp
theorem rl_out (v : Nat) (xs : List Int) (i : Nat) : rl v xs i i = rl v xs (i + 1) 0 := by
  unfold rl
  rw [List.range_succ, List.flatMap_append]
  simp
theorem rlF_count (v : Nat) (xs : List Int) (t : Nat) : (rlF v xs).count t = (bl v xs).count t := by
  obtain ⟨n, hn⟩ : ∃ n, xs.length = n := ⟨_, rfl⟩
  obtain ⟨f, hf⟩ : ∃ f : Nat → Int, (fun j => xs[j]?.getD 0) = f := ⟨_, rfl⟩
  have hx : xs = (List.range n).map f := by rw [← hn, ← hf]; exact list_get xs
  have hfj : ∀ j, xs[j]?.getD 0 = f j := fun j => by rw [← hf]
  have e1 : rlF v xs = (List.range n).flatMap fun t => ((List.range n).take t).map fun j => ix v (f j) (f t) := by
    unfold rlF rl
    rw [hn, List.take_zero, List.map_nil, List.append_nil]
    congr 1
    funext t
    rw [hfj, hx, ← List.map_take, List.map_map]
    rfl
  have e2 : bl v xs = (List.range n).flatMap fun j => ((List.range n).drop (j + 1)).map fun t => ix v (f j) (f t) := by
    unfold bl blP
    rw [hn, List.take_zero, List.map_nil, List.append_nil]
    congr 1
    funext t
    rw [hfj, hx, ← List.map_drop, List.map_map]
    rfl
  rw [e1, e2, count_flatMap', count_flatMap']
  have h1 : smn (fun i => (((List.range n).take i).map fun j => ix v (f j) (f i)).count t) (List.range n) = smn (fun i => smn (fun j => if j < i then (if ix v (f j) (f i) = t then 1 else 0) else 0) (List.range n)) (List.range n) := smn_congr (fun i _ => by rw [count_map', smn_take])
  have h2 : smn (fun j => (((List.range n).drop (j + 1)).map fun i => ix v (f j) (f i)).count t) (List.range n) = smn (fun j => smn (fun i => if j < i then (if ix v (f j) (f i) = t then 1 else 0) else 0) (List.range n)) (List.range n) := smn_congr (fun j _ => by rw [count_map', smn_drop])
  rw [h1, h2, smn_swap]
/-- The pairs so far. -/
def rP (v : Nat) (rows : List (List Int)) (r i j : Nat) : List Nat := (rows.take r).flatMap (rlF v) ++ rl v (rows[r]?.getD []) i j
theorem rP_zero (v : Nat) (rows : List (List Int)) : rP v rows 0 0 0 = [] := by simp [rP, rl_zero]
theorem rP_in {v : Nat} {rows : List (List Int)} {r i j : Nat} {xs : List Int} (hx : rows[r]?.getD [] = xs) (hj : j < xs.length) : rP v rows r i (j + 1) = rP v rows r i j ++ [ix v (xs[j]?.getD 0) (xs[i]?.getD 0)] := by
  unfold rP
  rw [hx, rl_in hj, List.append_assoc]
theorem rP_mid (v : Nat) (rows : List (List Int)) (r i : Nat) : rP v rows r i i = rP v rows r (i + 1) 0 := by
  unfold rP
  rw [rl_out]
theorem rP_out {v : Nat} {rows : List (List Int)} {r : Nat} {xs : List Int} (hr : r < rows.length) (hx : rows[r]?.getD [] = xs) : rP v rows r xs.length 0 = rP v rows (r + 1) 0 0 := by
  unfold rP
  rw [rl_zero, List.append_nil, List.take_add_one, List.flatMap_append, hx]
  rw [List.getElem?_eq_getElem hr] at hx ⊢
  simp at hx
  simp [hx, rlF]
theorem rP_end (v : Nat) (rows : List (List Int)) (t : Nat) : (rP v rows rows.length 0 0).count t = (tgL v rows).count t := by
  unfold rP tgL
  rw [rl_zero, List.append_nil, List.take_length, count_flatMap', count_flatMap']
  exact smn_congr (fun r _ => rlF_count v r t)
theorem rl_len (v : Nat) (xs : List Int) (i j : Nat) : (rl v xs i j).length ≤ i * xs.length + j := by
  unfold rl
  rw [List.length_append]
  have : ∀ i, ((List.range i).flatMap (fun t => (xs.take t).map fun x => ix v x (xs[t]?.getD 0))).length ≤ i * xs.length := by
    intro i
    induction i with
    | zero => simp
    | succ i ih =>
      rw [List.range_succ, List.flatMap_append, List.length_append, Nat.succ_mul]
      have h1 : ((xs.take i).map fun x => ix v x (xs[i]?.getD 0)).length ≤ xs.length := by rw [List.length_map, List.length_take]; omega
      simp only [List.flatMap_cons, List.flatMap_nil, List.append_nil]
      omega
  have h1 := this i
  have h2 : ((xs.take j).map fun x => ix v x (xs[i]?.getD 0)).length ≤ j := by rw [List.length_map, List.length_take]; omega
  omega
theorem rP_len {v : Nat} {rows : List (List Int)} (r i j : Nat) (hl : ∀ t, t ≤ r → (rows[t]?.getD []).length ≤ 200) (hr : r < rows.length) (hi : i ≤ 200) (hj : j ≤ 200) : (rP v rows r i j).length ≤ r * 40000 + 40200 := by
  have h0 : ∀ (l : List (List Int)), (∀ r ∈ l, r.length ≤ 200) → (l.flatMap (rlF v)).length ≤ l.length * 40000 := by
    intro l
    induction l with
    | nil => intro _; simp
    | cons y t ih =>
      intro h
      have h1 := ih (fun x hx => h x (List.mem_cons_of_mem _ hx))
      have h2 := rl_len v y y.length 0
      have h3 := h y List.mem_cons_self
      have h4 : y.length * y.length ≤ 200 * 200 := Nat.mul_le_mul h3 h3
      rw [List.flatMap_cons, List.length_append, List.length_cons, Nat.succ_mul]
      unfold rlF
      unfold rlF at h1
      omega
  unfold rP
  rw [List.length_append]
  have h1 := h0 (rows.take r) (fun x hx => by
    obtain ⟨t, ht, e⟩ := List.mem_take_iff_getElem.1 hx
    have := hl t (by omega)
    rw [List.getElem?_eq_getElem (by omega), Option.getD_some, e] at this
    exact this)
  rw [List.length_take, Nat.min_eq_left (by omega)] at h1
  have h2 := rl_len v (rows[r]?.getD []) i j
  have h3 := hl r (Nat.le_refl _)
  have h4 : i * (rows[r]?.getD []).length ≤ 200 * 200 := Nat.mul_le_mul hi h3
  omega
/-- A row of the square of counts. -/
def cnr (v : Nat) (T : List Nat) (x : Nat) : List Int := (List.range v).map fun y => ((T.count (x * v + y) : Nat) : Int)
theorem cnr_len (v : Nat) (T : List Nat) (x : Nat) : (cnr v T x).length = v := by simp [cnr]
theorem cnr_get {v y : Nat} (T : List Nat) (x : Nat) (h : y < v) : (cnr v T x)[y]?.getD 0 = ((T.count (x * v + y) : Nat) : Int) := by simp [cnr, h]
theorem cnr_nil (v x : Nat) : cnr v [] x = List.replicate v 0 := by
  apply List.ext_getElem
  · simp [cnr]
  · intro i h1 h2
    simp [cnr]
theorem cnr_succ {v x y : Nat} (T : List Nat) (hy : y < v) (x' : Nat) : cnr v (T ++ [x * v + y]) x' = if x' = x then (cnr v T x).set y (((T.count (x * v + y) : Nat) : Int) + 1) else cnr v T x' := by
  by_cases e : x' = x
  · subst e
    rw [if_pos rfl]
    apply List.ext_getElem
    · simp [cnr]
    · intro i h1 h2
      rw [List.getElem_set]
      by_cases e2 : y = i
      · subst e2
        simp [cnr, List.count_append]
      · rw [if_neg e2]
        simp only [cnr, List.getElem_map, List.getElem_range, List.count_append]
        rw [List.count_eq_zero_of_not_mem (l := [x' * v + y]) (by simp; omega)]
        simp
  · rw [if_neg e]
    unfold cnr
    refine List.map_congr_left (fun i hi => ?_)
    have hi := List.mem_range.1 hi
    rw [List.count_append, List.count_eq_zero_of_not_mem (l := [x * v + y]) (fun h => ?_)]
    · rfl
    · have h := List.mem_singleton.1 h
      rcases Nat.lt_or_gt_of_ne e with h1 | h1
      · have := Nat.mul_le_mul_right v (show x' + 1 ≤ x from h1)
        rw [Nat.succ_mul] at this
        omega
      · have := Nat.mul_le_mul_right v (show x + 1 ≤ x' from h1)
        rw [Nat.succ_mul] at this
        omega
/-- A square in memory: the first j rows are there. -/
structure Mtx (v G : Nat) (w0 : World) (j : Nat) (F : Nat → List Int) (W : World) : Prop where
  row : Vrow 40 W G v (fun i => if i < j then .slice (some ⟨G + 1 + i, 0, none⟩) v v else .slice none 0 0)
  rows : ∀ i, i < j → Row 3 .i64 W (G + 1 + i) (F i)
  bel : Below w0.heap.size w0 W
  out : w0.heap.size ≤ G
  size : G + 1 + j ≤ W.heap.size
section
variable {v G j : Nat} {w0 W W' : World} {F : Nat → List Int}
theorem Mtx.below (h : Mtx v G w0 j F W) (hb : Below W.heap.size W W') : Mtx v G w0 j F W' :=
  ⟨h.row.keep (hb.block G h.row.lt), fun i hi => (h.rows i hi).below hb, h.bel.trans (hb.mono h.bel.size), h.out, by have := hb.size; have := h.size; omega⟩
theorem Mtx.set (h : Mtx v G w0 j F W) {x : Nat} (hx : x < j) (y : Nat) (a : Int) : Mtx v G w0 j (fun i => if i = x then (F x).set y a else F i) (W.setCell ⟨G + 1 + x, y, none⟩ (.int .i64 a)) := by
  have hgs : W.grownBy (W.setCell ⟨G + 1 + x, y, none⟩ (.int .i64 a)) (some (G + 1 + x)) := growSet (growRefl _ _) _ _
  refine ⟨h.row.grown hgs (by simp; omega), fun i hi => ?_, h.bel.setCell (p := ⟨G + 1 + x, y, none⟩) (by have := h.out; show w0.heap.size ≤ G + 1 + x; omega) _, h.out, by have := h.size; simp [World.setCell]; omega⟩
  by_cases e : i = x
  · subst e
    show Row _ _ _ _ (if i = i then _ else _)
    rw [if_pos rfl]
    exact (h.rows i hi).set y a
  · show Row _ _ _ _ (if i = x then _ else _)
    rw [if_neg e]
    exact (h.rows i hi).setOther _ (by show G + 1 + x ≠ G + 1 + i; omega)
theorem Mtx.congr {F' : Nat → List Int} (h : Mtx v G w0 j F W) (he : ∀ i, i < j → F i = F' i) : Mtx v G w0 j F' W :=
  ⟨h.row, fun i hi => by rw [← he i hi]; exact h.rows i hi, h.bel, h.out, h.size⟩
end
end Go.Proofs.YtalahdkhglagpaaGreatDoor
