import Derived.Test.YtalahdkhglagpaaGreatDf
set_option linter.unusedVariables false
set_option linter.unusedSimpArgs false
namespace Go.Proofs.YtalahdkhglagpaaGreat
open Go Go.RowKit Go.Deep
open Dsg
/-- The development. -/
def dvF (v : Nat) (xs : List Int) : List (List Int) := (List.range v).map (dvL v xs)
def okDv (v : Int) (xs : List Int) : Prop := 3 ≤ v ∧ v ≤ 200 ∧ xs ≠ [] ∧ difB v xs = true
/-- What Develop answers. -/
def DvRet (v : Int) (xs : List Int) (w : World) (e : Ending) (w' : World) : Prop :=
  Below w.heap.size w w' ∧ ((okDv v xs ∧ ∃ ao cap, e = .returned (.tuple #[.slice ao v.toNat cap, .int .i64 0]) ∧ v.toNat ≤ cap ∧ cap ≤ maxLen ∧ Sls w' ao (dvF v.toNat xs)) ∨ (¬ okDv v xs ∧ e = .returned (.tuple #[.slice none 0 0, .int .i64 1])))
/-- Block G is a row of v values. -/
def Vrow (E : TypeId) (w : World) (G v : Nat) (R : Nat → Value) : Prop := w.heap[G]? = some (.cells ((List.range v).map R).toArray E (0, 0))
section
variable {E : TypeId} {w w' : World} {G v : Nat} {R : Nat → Value}
theorem Vrow.lt (h : Vrow E w G v R) : G < w.heap.size := (Array.getElem?_eq_some_iff.1 h).1
theorem Vrow.cell (h : Vrow E w G v R) {r : Nat} (hr : r < v) : w.cell? ⟨G, r, none⟩ = some (R r) := by
  rw [cell_of_row w G r _ _ (0, 0) h]; simp [hr]
theorem Vrow.free (h : Vrow E w G v R) (r : Nat) : w.frozen? ⟨G, r, none⟩ = false := frozen_of_row w G r _ _ h
theorem Vrow.set (h : Vrow E w G v R) {i : Nat} (u : Value) : Vrow E (w.setCell ⟨G, i, none⟩ u) G v (fun j => if j = i then u else R j) := by
  have := heap_setCell_same w G i _ _ u h
  unfold Vrow
  rw [this]
  congr 1
  apply congrArg (fun a => Obj.cells a E (0, 0))
  apply Array.toList_inj.1
  rw [Array.toList_setIfInBounds]
  apply List.ext_getElem
  · simp
  · intro k h1 h2
    rw [List.getElem_set]
    by_cases e : i = k
    · subst e; simp
    · rw [if_neg e]
      simp [show ¬ k = i from fun x => e x.symm]
theorem Vrow.keep (h : Vrow E w G v R) (he : w'.heap[G]? = w.heap[G]?) : Vrow E w' G v R := he.trans h
theorem Vrow.grown {row : Option Nat} (h : Vrow E w G v R) (hg : w.grownBy w' row) (hr : row ≠ some G) : Vrow E w' G v R := h.keep (hg.block G h.lt fun e => hr e.symm)
theorem Vrow.new (w : World) (v : Nat) : Vrow 22 (w.alloc (.cells (madeCells #[.slice none 0 0] v) 22)) w.heap.size v fun _ => .slice none 0 0 := by
  unfold Vrow
  rw [heap_alloc_new]
  congr 1
  apply congrArg (fun a => Obj.cells a 22 (0, 0))
  apply Array.toList_inj.1
  rw [toList_madeCells_one]
  apply List.ext_getElem <;> simp
end
/-- How far Develop has come: the first i rows are done. -/
structure Dev (v : Nat) (D : Nat → List Int) (G : Nat) (w0 : World) (R : Nat → Value) (i : Nat) (W : World) : Prop where
  row : Vrow 22 W G v R
  old : ∀ j, j < i → Mine 3 .i64 (G + 1) W (R j) (D j)
  nil : ∀ j, i < j → j < v → R j = .slice none 0 0
  bel : Below w0.heap.size w0 W
  out : w0.heap.size ≤ G
/-- The row that is under way. -/
structure Dvi (v : Nat) (D : Nat → List Int) (G : Nat) (w0 : World) (B : Nat) (R : Nat → Value) (i : Nat) (ys : List Int) (W : World) : Prop where
  dev : Dev v D G w0 R i W
  now : Mine 3 .i64 B W (R i) ys
  lt : ∀ j, j < i → ∀ k, (R j).ownBlock = some k → k < B
  gb : G < B
  bs : B ≤ W.heap.size
theorem Dvi.alloc {v : Nat} {D : Nat → List Int} {G : Nat} {w0 : World} {B : Nat} {R : Nat → Value} {i : Nat} {ys : List Int} {W : World} (h : Dvi v D G w0 B R i ys W) (o : Obj) : Dvi v D G w0 B R i ys (W.alloc o) :=
  ⟨⟨h.dev.row.grown (World.grownBy_alloc W o none) (by simp), fun j hj => (h.dev.old j hj).alloc o, h.dev.nil, h.dev.bel.alloc h.dev.bel.size _, h.dev.out⟩, h.now.alloc o, h.lt, h.gb, by have := h.bs; simp; omega⟩
theorem Dvi.drew {v : Nat} {D : Nat → List Int} {G : Nat} {w0 : World} {B : Nat} {R : Nat → Value} {i : Nat} {ys : List Int} {W : World} (h : Dvi v D G w0 B R i ys W) : Dvi v D G w0 B R i ys W.drew :=
  ⟨⟨h.dev.row, fun j hj => (h.dev.old j hj).below (belowDrew W), h.dev.nil, h.dev.bel.trans ((belowDrew W).mono h.dev.bel.size), h.dev.out⟩, h.now.below (belowDrew W), h.lt, h.gb, h.bs⟩
/-- The row under way grows, and its header is laid back. -/
theorem Dvi.next {v : Nat} {D : Nat → List Int} {G : Nat} {w0 : World} {B : Nat} {R : Nat → Value} {i : Nat} {ys zs : List Int} {W W' : World} {u : Value} (h : Dvi v D G w0 B R i ys W) (hi : i < v)
    (hm : Mine 3 .i64 B W' u zs) (hg : W.grownBy W' (R i).ownBlock) : Dvi v D G w0 B (fun j => if j = i then u else R j) i zs (W'.setCell ⟨G, i, none⟩ u) := by
  have hgs : W'.grownBy (W'.setCell ⟨G, i, none⟩ u) (some G) := growSet (growRefl _ _) _ _
  have hrow : (R i).ownBlock ≠ some G := fun e => by have := (h.now.own G e).1; have := h.gb; omega
  have hR : ∀ j, j < i → (if j = i then u else R j) = R j := fun j hj => by
    rw [if_neg (by omega)]
  refine ⟨⟨(h.dev.row.grown hg hrow).set u, fun j hj => ?_, fun j h1 h2 => ?_, ?_, h.dev.out⟩, ?_, fun j hj k hk => ?_, h.gb, ?_⟩
  · rw [hR j hj]
    refine ((h.dev.old j hj).off hg fun k hk e => ?_).off hgs fun k hk e => ?_
    · have := h.lt j hj k hk
      have := (h.now.own k e).1
      omega
    · have := ((h.dev.old j hj).own k hk).1
      cases e
      omega
  · show (if j = i then u else R j) = _
    rw [if_neg (by omega)]
    exact h.dev.nil j h1 h2
  · have hb : Below w0.heap.size w0 W' := h.dev.bel.grown hg h.dev.bel.size fun k hk => by
      have := (h.now.own k hk).1
      have := h.gb
      have := h.dev.out
      omega
    exact hb.setCell (p := ⟨G, i, none⟩) h.dev.out _
  · show Mine _ _ _ _ (if i = i then u else R i) _
    rw [if_pos rfl]
    exact hm.off hgs fun k hk e => by
      have := (hm.own k hk).1
      have := h.gb
      cases e
      omega
  · rw [hR j hj] at hk
    exact h.lt j hj k hk
  · have := h.bs
    have := hg.size
    simp [World.setCell]
    omega
theorem Dvi.done {v : Nat} {D : Nat → List Int} {G : Nat} {w0 : World} {B : Nat} {R : Nat → Value} {i : Nat} {ys : List Int} {W W' : World} (h : Dvi v D G w0 B R i ys W) (hm : Mine 3 .i64 B W' (R i) (D i)) (hg : W.grownBy W' (R i).ownBlock) : Dev v D G w0 R (i + 1) W' := by
  have hrow : (R i).ownBlock ≠ some G := fun e => by have := (h.now.own G e).1; have := h.gb; omega
  refine ⟨h.dev.row.grown hg hrow, fun j hj => ?_, fun j h1 h2 => h.dev.nil j (by omega) h2, ?_, h.dev.out⟩
  · by_cases e : j = i
    · subst e
      exact hm.lower h.gb
    · refine (h.dev.old j (by omega)).off hg fun k hk e' => ?_
      have := h.lt j (by omega) k hk
      have := (h.now.own k e').1
      omega
  · exact h.dev.bel.grown hg h.dev.bel.size fun k hk => by
      have := (h.now.own k hk).1
      have := h.gb
      have := h.dev.out
      omega
theorem Dev.start {v : Nat} {D : Nat → List Int} {G : Nat} {w0 : World} {R : Nat → Value} {i : Nat} {W : World} (h : Dev v D G w0 R i W) (hn : R i = .slice none 0 0) : Dvi v D G w0 W.heap.size R i [] W :=
  ⟨h, by rw [hn]; exact Mine.nil _ _ _ _, fun j hj k hk => ((h.old j hj).own k hk).2, h.row.lt, Nat.le_refl _⟩
theorem Dev.sls {v : Nat} {D : Nat → List Int} {G : Nat} {w0 : World} {R : Nat → Value} {W : World} (h : Dev v D G w0 R v W) : Sls W (some ⟨G, 0, none⟩) ((List.range v).map D) := by
  intro j hj
  have hj' : j < v := by simpa using hj
  refine ⟨G, 0, R j, rfl, h.row.lt, by rw [Nat.zero_add]; exact h.row.cell hj', ?_⟩
  have := (h.old j hj').sl
  simpa [hj'] using this
set_option maxRecDepth 20000 in
set_option maxHeartbeats 8000000 in
theorem develop_any (v : Int) (vv : Value) (xs : List Int) (w : World) (h : Sl .i64 w vv xs) (hx : xs.length ≤ 10000) :
    Calls Tryz.prog 9 #[.int .i64 v, vv] w (DvRet v xs w) := by
  have HS := Kept.mk h
  obtain ⟨ao, cap, rfl, hcap, hmax, hc⟩ := h
  obtain ⟨n, hN⟩ : ∃ n, xs.length = n := ⟨_, rfl⟩
  have HC := Kept.mk hc
  rw [hN] at hcap HS hx ⊢
  have HN := Kept.mk hN
  unfold maxLen at hmax
  clear hc hN
  have HNO : Kept (∀ w', Below w.heap.size w w' → ¬ okDv v xs → DvRet v xs w (.returned (.tuple #[.slice none 0 0, .int .i64 1])) w') := ⟨fun w' hb hno => ⟨hb, .inr ⟨hno, rfl⟩⟩⟩
  have HPC := Kept.mk (isPointCount_any v w)
  by_cases h1 : 3 ≤ v ∧ v ≤ 200
  rotate_left
  · have HF := Kept.mk (HNO.out w (Below.refl _ _) (fun h => h1 ⟨h.1, h.2.1⟩))
    rw [decide_eq_false h1] at HPC
    clear h1
    go_enter Tryz.func9, Tryz.ntmps9
    go_wp2_with fail
    refine HPC.out.mono ?_
    rintro e w1 ⟨rfl, rfl⟩
    go_wp2
    exact bodyPost_ret (v := .tuple #[.slice none 0 0, .int .i64 1]) (by simp [results, Tryz.results9, go_sem]) rfl HF.out
  rw [decide_eq_true h1] at HPC
  obtain ⟨h1, h2⟩ := h1
  obtain ⟨u, rfl⟩ : ∃ u : Nat, v = u := ⟨v.toNat, by omega⟩
  by_cases h0 : n = 0
  · have HF := Kept.mk (HNO.out w (Below.refl _ _) (fun h => h.2.2.1 (List.eq_nil_of_length_eq_zero (by rw [HN.out]; exact h0))))
    subst h0
    go_enter Tryz.func9, Tryz.ntmps9
    go_wp2_with fail
    refine HPC.out.mono ?_
    rintro e w1 ⟨rfl, rfl⟩
    go_wp2
    exact bodyPost_ret (v := .tuple #[.slice none 0 0, .int .i64 1]) (by simp [results, Tryz.results9, go_sem]) rfl HF.out
  have e0 : ((n : Int) == 0) = false := by simp; omega
  have HAD := Kept.mk (areDifferent_any u _ xs w HS.out (by omega))
  cases hd : difB u xs with
  | false =>
    have HF := Kept.mk (fun w' hb => HNO.out w' hb (fun h => by have := h.2.2.2; rw [hd] at this; cases this))
    rw [hd] at HAD
    clear hd
    go_enter Tryz.func9, Tryz.ntmps9
    go_wp2_with fail
    refine HPC.out.mono ?_
    rintro e w1 ⟨rfl, rfl⟩
    go_wp2_with fail
    refine HAD.out.mono ?_
    rintro e w1 ⟨hb1, rfl⟩
    go_wp2
    exact bodyPost_ret (v := .tuple #[.slice none 0 0, .int .i64 1]) (by simp [results, Tryz.results9, go_sem]) rfl (HF.out _ hb1)
  | true =>
    have HR : Kept (∀ x ∈ xs, 0 ≤ x ∧ x < (u : Int)) := ⟨(difB_iff.1 hd).1⟩
    have HD := Kept.mk hd
    have HY : Kept (∀ w' ao cap, Below w.heap.size w w' → u ≤ cap → cap ≤ maxLen → Sls w' ao (dvF u xs) → DvRet u xs w (.returned (.tuple #[.slice ao u cap, .int .i64 0])) w') := ⟨fun w' ao cap hb h3 h4 h5 => ⟨hb, .inl ⟨⟨by omega, by omega, fun e => h0 (by rw [← HN.out, e]; rfl), hd⟩, ao, cap, rfl, h3, h4, h5⟩⟩⟩
    rw [hd] at HAD
    clear hd
    have hu0 : 0 < u := by omega
    have hmk := run_make_row' (P := Tryz.prog) 26 22 (.slice none 0 0) 24 Tryz.underlying26 info_rows rfl .i64 .i64 u (by omega) (by omega)
    go_enter Tryz.func9, Tryz.ntmps9
    go_wp2_with fail
    refine HPC.out.mono ?_
    rintro e w1 ⟨rfl, rfl⟩
    go_wp2_with fail
    refine HAD.out.mono ?_
    rintro e w1 ⟨hb1, rfl⟩
    have HDV0 : Kept (Dev u (dvL u xs) w1.heap.size w (fun _ => .slice none 0 0) 0 (w1.alloc (.cells (madeCells #[.slice none 0 0] u) 22))) := ⟨⟨Vrow.new w1 u, fun j hj => absurd hj (Nat.not_lt_zero _), fun _ _ _ => rfl, hb1.alloc hb1.size _, hb1.size⟩⟩
    clear hb1
    go_wp2
    go_loopw [28] (fun iv wr => ∃ (i : Nat) (R : Nat → Value), i ≤ u ∧ iv = .int .i64 i ∧ Kept (Dev u (dvL u xs) w1.heap.size w R i wr ∧ (i < u → R i = .slice none 0 0))) (fun iv _ => u - (intOf iv).toNat)
    case atStart => exact ⟨0, _, Nat.zero_le _, rfl, ⟨HDV0.out, fun _ => rfl⟩⟩
    case round =>
      obtain ⟨i, R0, hiu, rfl, hdv⟩ := hrel
      by_cases hiv : i < u
      · have HDI0 : Kept (Dvi u (dvL u xs) w1.heap.size w wr.heap.size R0 i ((xs.take 0).map fun x => (x + i) % (u : Int)) wr) := ⟨hdv.out.1.start (hdv.out.2 hiv)⟩
        obtain ⟨wz, hwz⟩ : ∃ W, W = wr := ⟨_, rfl⟩
        subst hwz
        obtain ⟨B, hB⟩ : ∃ B, wz.heap.size = B := ⟨_, rfl⟩
        rw [hB] at HDI0
        clear hB hdv
        go_wp2
        go_loopw [33] (fun kv wr => ∃ (k : Nat) (R : Nat → Value), k ≤ n ∧ kv = .int .i64 k ∧ Kept (Dvi u (dvL u xs) w1.heap.size w B R i ((xs.take k).map fun x => (x + i) % (u : Int)) wr)) (fun kv _ => n - (intOf kv).toNat)
        case atStart => exact ⟨0, _, Nat.zero_le _, rfl, HDI0⟩
        case round =>
          obtain ⟨k, R, hkn, rfl, HDI⟩ := hrel
          by_cases hlk : k < n
          · obtain ⟨g, o, rfl, hg, hcell⟩ := HC.out k (by rw [HN.out]; exact hlk)
            obtain ⟨a, ha⟩ : ∃ a, xs[k]?.getD 0 = a := ⟨_, rfl⟩
            rw [ha] at hcell
            have kc := (HDI.out.dev.bel.cell (p := ⟨g, o + k, none⟩) hg).trans hcell
            obtain ⟨a0, a1⟩ := HR.out a (by rw [← ha]; exact get_mem' (by rw [HN.out]; exact hlk))
            obtain ⟨ys, hys⟩ : ∃ ys, (xs.take k).map (fun x => (x + i) % (u : Int)) = ys := ⟨_, rfl⟩
            obtain ⟨z, hz⟩ : ∃ z, (a + i) % (u : Int) = z := ⟨_, rfl⟩
            have hyl : ys.length = k := by rw [← hys, List.length_map, List.length_take, HN.out]; omega
            have HYS : Kept ((xs.take (k + 1)).map (fun x => (x + i) % (u : Int)) = ys ++ [z]) := ⟨by
              rw [List.take_add_one, List.map_append, hys, List.getElem?_eq_getElem (by rw [HN.out]; exact hlk)]
              rw [List.getElem?_eq_getElem (by rw [HN.out]; exact hlk)] at ha
              simp at ha
              simp [ha, hz]⟩
            rw [hys] at HDI
            obtain ⟨ra, rc, hRi, _, _⟩ := HDI.out.now.sl.form
            rw [hyl] at hRi
            have H1 := Kept.mk (show (ys.length + [z].length) * 8 ≤ 140737488355328 by rw [hyl]; simp; omega)
            have H2 := Kept.mk (show ys.length + [z].length ≤ maxLen by rw [hyl]; unfold maxLen; simp; omega)
            have c0 := HDI.out.dev.row.cell hiv
            rw [hRi] at c0
            have w1' : IntKind.i64.wrap (a + i) = a + i := wrapB (by omega) (by omega)
            have w3' : (a + i).tmod (u : Int) = z := by rw [← hz]; exact Int.tmod_eq_emod_of_nonneg (by omega)
            have hun : ¬ ((u : Int) = 0) := by omega
            have hun2 : ¬ (u = 0) := by omega
            have hiv' : (i : Int) < (u : Int) := by omega
            have HL5 : Kept ((ys ++ [z]).length = k + 1) := ⟨by simp [hyl]⟩
            clear hcell ha hz hys hyl
            go_wp2
            refine wp_region_held_drew (S := fun _ => True) (by kernel_rfl) trivial (fun hHeld => ?_)
            refine wpAnyH_take (i := 0) (v := ?_) rfl (by kernel_rfl) (by kernel_rfl) (by kernel_rfl) (fun _ _ _ h => h) (Or.inl ⟨by rfl, ?_⟩) (by assumption) ?_
            rotate_left
            · (intro w hSw; (try dsimp only at hSw); go_simp; (try with_reducible rfl))
            try simp only [Act.put, List.getElem_toArray, List.getElem_cons_succ, List.getElem_cons_zero, List.setIfInBounds_toArray, List.set_cons_zero, List.set_cons_succ]
            refine wpAnyH_take (i := 1) (v := ?_) rfl (by kernel_rfl) (by kernel_rfl) (by kernel_rfl) (fun _ _ _ h => h) (Or.inl ⟨by rfl, ?_⟩) (by assumption) ?_
            rotate_left
            · (intro w hSw; (try dsimp only at hSw); go_simp; (try with_reducible rfl))
            try simp only [Act.put, List.getElem_toArray, List.getElem_cons_succ, List.getElem_cons_zero, List.setIfInBounds_toArray, List.set_cons_zero, List.set_cons_succ]
            refine wpAnyH_take (i := 2) (v := ?_) rfl (by kernel_rfl) (by kernel_rfl) (by kernel_rfl) (fun _ _ _ h => h) (Or.inl ⟨by rfl, ?_⟩) (by assumption) ?_
            rotate_left
            · (intro w hSw; (try dsimp only at hSw); go_simp; (try with_reducible rfl))
            try simp only [Act.put, List.getElem_toArray, List.getElem_cons_succ, List.getElem_cons_zero, List.setIfInBounds_toArray, List.set_cons_zero, List.set_cons_succ]
            refine wpAnyH_take (i := 3) (v := ?_) rfl (by kernel_rfl) (by kernel_rfl) (by kernel_rfl) (fun _ _ _ h => h) (Or.inl ⟨by rfl, ?_⟩) (by assumption) ?_
            rotate_left
            · (intro w hSw; (try dsimp only at hSw); go_simp; (try with_reducible rfl))
            try simp only [Act.put, List.getElem_toArray, List.getElem_cons_succ, List.getElem_cons_zero, List.setIfInBounds_toArray, List.set_cons_zero, List.set_cons_succ]
            refine wpAnyH_take (i := 4) (v := ?_) rfl (by kernel_rfl) (by kernel_rfl) (by kernel_rfl) (fun _ _ _ h => h) (Or.inl ⟨by rfl, ?_⟩) (by assumption) ?_
            rotate_left
            · (intro w hSw; (try dsimp only at hSw); go_simp; (try with_reducible rfl))
            try simp only [Act.put, List.getElem_toArray, List.getElem_cons_succ, List.getElem_cons_zero, List.setIfInBounds_toArray, List.set_cons_zero, List.set_cons_succ]
            refine wpAnyH_take (i := 6) (v := ?_) rfl (by kernel_rfl) (by kernel_rfl) (by kernel_rfl) (fun _ _ _ h => h) (Or.inl ⟨by rfl, ?_⟩) (by assumption) ?_
            rotate_left
            · (intro w hSw; (try dsimp only at hSw); go_simp; (try with_reducible rfl))
            try simp only [Act.put, List.getElem_toArray, List.getElem_cons_succ, List.getElem_cons_zero, List.setIfInBounds_toArray, List.set_cons_zero, List.set_cons_succ]
            refine wpAnyH_take (i := 7) (v := ?_) rfl (by kernel_rfl) (by kernel_rfl) (by kernel_rfl) (fun _ _ _ h => h) (Or.inl ⟨by rfl, ?_⟩) (by assumption) ?_
            rotate_left
            · (intro w hSw; (try dsimp only at hSw); go_simp; (try with_reducible rfl))
            try simp only [Act.put, List.getElem_toArray, List.getElem_cons_succ, List.getElem_cons_zero, List.setIfInBounds_toArray, List.set_cons_zero, List.set_cons_succ]
            refine wpAnyH_take (i := 8) (v := ?_) rfl (by kernel_rfl) (by kernel_rfl) (by kernel_rfl) (fun _ _ _ h => h) (Or.inl ⟨by rfl, ?_⟩) (by assumption) ?_
            rotate_left
            · (intro w hSw; (try dsimp only at hSw); go_simp; (try with_reducible rfl))
            try simp only [Act.put, List.getElem_toArray, List.getElem_cons_succ, List.getElem_cons_zero, List.setIfInBounds_toArray, List.set_cons_zero, List.set_cons_succ]
            refine wpAnyH_take (i := 9) (v := ?_) rfl (by kernel_rfl) (by kernel_rfl) (by kernel_rfl) (fun _ _ _ h => h) (Or.inl ⟨by rfl, ?_⟩) (by assumption) ?_
            rotate_left
            · (intro w hSw; (try dsimp only at hSw); go_simp; (try with_reducible rfl))
            try simp only [Act.put, List.getElem_toArray, List.getElem_cons_succ, List.getElem_cons_zero, List.setIfInBounds_toArray, List.set_cons_zero, List.set_cons_succ]
            refine wpAnyH_take (i := 10) (v := ?_) rfl (by kernel_rfl) (by kernel_rfl) (by kernel_rfl) (fun _ _ _ h => h) (Or.inl ⟨by rfl, ?_⟩) (by assumption) ?_
            rotate_left
            · (intro w hSw; (try dsimp only at hSw); go_simp; (try with_reducible rfl))
            try simp only [Act.put, List.getElem_toArray, List.getElem_cons_succ, List.getElem_cons_zero, List.setIfInBounds_toArray, List.set_cons_zero, List.set_cons_succ]
            refine wpAnyH_ready (rs := [5, 11]) (by kernel_rfl) (by simp) ?_
            refine AllReadyH.cons rfl (fun K hK => ?_) (AllReadyH.cons rfl (fun K hK => ?_) AllReadyH.nil)
            · go_simp
              refine hK.out _ _ trivial (fun hHeld => ?_)
              clear hK K
              try simp only [Act.put, List.getElem_toArray, List.getElem_cons_succ, List.getElem_cons_zero, List.setIfInBounds_toArray, List.set_cons_zero, List.set_cons_succ]
              refine wpAnyH_ready (rs := [11]) (by kernel_rfl) (by simp) ?_
              refine (AllReadyH.cons rfl (fun K hK => ?_) AllReadyH.nil)
              go_simp
              have HDA := Kept.mk (HDI.out.alloc (.cells #[.int .i64 z] 3)).drew
              have c1 := HDA.out.dev.row.cell hiv
              rw [hRi] at c1
              have HNW := Kept.mk (new_one (K := .i64) (x := z) (w := wr.drew.alloc (.cells #[.int .i64 z] 3)) (b := wr.drew.heap.size) (o := 0) (by exact (Row.new (E := 3) (K := .i64) wr.drew [z]).cell (i := 0) (by simp)))
              refine hK.out _ _ trivial (fun hHeld => ?_)
              clear hK K
              try simp only [Act.put, List.getElem_toArray, List.getElem_cons_succ, List.getElem_cons_zero, List.setIfInBounds_toArray, List.set_cons_zero, List.set_cons_succ]
              refine wpAnyH_ready (rs := [12]) (by kernel_rfl) (by simp) ?_
              refine (AllReadyH.cons rfl (fun K hK => ?_) AllReadyH.nil)
              (refine wp_append_mine _ _ _ 22 (by rfl) 3 .i64 8 Tryz.underlying22 info_i64 B (.slice ra k rc) ys (by rfl) (by have := HDA.out.now; rw [hRi] at this; exact this) HDA.out.bs ⟨wr.drew.heap.size, 0, none⟩ 1 1 [z] (by rfl) (by rfl) HNW.out H1.out H2.out ?_)
              intro v' w5 hM5 hg5 hn5
              obtain ⟨va, vc, hv5, _, _⟩ := hM5.sl.form
              rw [HL5.out] at hv5
              subst hv5
              have HN5 := Kept.mk (HDA.out.next hiv hM5 (by rw [hRi]; exact hg5))
              have c2 := (HDA.out.dev.row.grown hg5 (by rw [← hRi]; exact fun e => by have := (HDA.out.now.own _ e).1; have := HDA.out.gb; omega)).cell hiv
              have c3 := (HDA.out.dev.row.grown hg5 (by rw [← hRi]; exact fun e => by have := (HDA.out.now.own _ e).1; have := HDA.out.gb; omega)).free i
              clear hM5 hg5 hn5
              refine hK.out _ _ trivial (fun hHeld => ?_)
              clear hK K
              try simp only [Act.put, List.getElem_toArray, List.getElem_cons_succ, List.getElem_cons_zero, List.setIfInBounds_toArray, List.set_cons_zero, List.set_cons_succ]
              refine wpAnyH_take (i := 13) (v := ?_) rfl (by kernel_rfl) (by kernel_rfl) (by kernel_rfl) (fun _ _ _ h => h) (Or.inl ⟨by rfl, ?_⟩) (by assumption) ?_
              rotate_left
              · (intro w hSw; (try dsimp only at hSw); go_simp; (try with_reducible rfl))
              try simp only [Act.put, List.getElem_toArray, List.getElem_cons_succ, List.getElem_cons_zero, List.setIfInBounds_toArray, List.set_cons_zero, List.set_cons_succ]
              refine wpAnyH_ready (rs := [14]) (by kernel_rfl) (by simp) ?_
              refine (AllReadyH.cons rfl (fun K hK => ?_) AllReadyH.nil)
              go_simp
              refine hK.out _ _ trivial (fun hHeld => ?_)
              clear hK K
              try simp only [Act.put, List.getElem_toArray, List.getElem_cons_succ, List.getElem_cons_zero, List.setIfInBounds_toArray, List.set_cons_zero, List.set_cons_succ]
              refine wpAnyH_done (by kernel_rfl) ?_ _
              go_wp2
              go_roundw
              case rel => exact ⟨k + 1, _, by omega, by go_num, ⟨by rw [HYS.out]; exact HN5.out⟩⟩
              case measure => simp [intOf] <;> omega
            · go_simp
              have HDA := Kept.mk (HDI.out.alloc (.cells #[.int .i64 z] 3)).drew
              have c1 := HDA.out.dev.row.cell hiv
              rw [hRi] at c1
              have HNW := Kept.mk (new_one (K := .i64) (x := z) (w := wr.drew.alloc (.cells #[.int .i64 z] 3)) (b := wr.drew.heap.size) (o := 0) (by exact (Row.new (E := 3) (K := .i64) wr.drew [z]).cell (i := 0) (by simp)))
              refine hK.out _ _ trivial (fun hHeld => ?_)
              clear hK K
              try simp only [Act.put, List.getElem_toArray, List.getElem_cons_succ, List.getElem_cons_zero, List.setIfInBounds_toArray, List.set_cons_zero, List.set_cons_succ]
              refine wpAnyH_ready (rs := [5]) (by kernel_rfl) (by simp) ?_
              refine (AllReadyH.cons rfl (fun K hK => ?_) AllReadyH.nil)
              go_simp
              refine hK.out _ _ trivial (fun hHeld => ?_)
              clear hK K
              try simp only [Act.put, List.getElem_toArray, List.getElem_cons_succ, List.getElem_cons_zero, List.setIfInBounds_toArray, List.set_cons_zero, List.set_cons_succ]
              refine wpAnyH_ready (rs := [12]) (by kernel_rfl) (by simp) ?_
              refine (AllReadyH.cons rfl (fun K hK => ?_) AllReadyH.nil)
              (refine wp_append_mine _ _ _ 22 (by rfl) 3 .i64 8 Tryz.underlying22 info_i64 B (.slice ra k rc) ys (by rfl) (by have := HDA.out.now; rw [hRi] at this; exact this) HDA.out.bs ⟨wr.drew.heap.size, 0, none⟩ 1 1 [z] (by rfl) (by rfl) HNW.out H1.out H2.out ?_)
              intro v' w5 hM5 hg5 hn5
              obtain ⟨va, vc, hv5, _, _⟩ := hM5.sl.form
              rw [HL5.out] at hv5
              subst hv5
              have HN5 := Kept.mk (HDA.out.next hiv hM5 (by rw [hRi]; exact hg5))
              have c2 := (HDA.out.dev.row.grown hg5 (by rw [← hRi]; exact fun e => by have := (HDA.out.now.own _ e).1; have := HDA.out.gb; omega)).cell hiv
              have c3 := (HDA.out.dev.row.grown hg5 (by rw [← hRi]; exact fun e => by have := (HDA.out.now.own _ e).1; have := HDA.out.gb; omega)).free i
              clear hM5 hg5 hn5
              refine hK.out _ _ trivial (fun hHeld => ?_)
              clear hK K
              try simp only [Act.put, List.getElem_toArray, List.getElem_cons_succ, List.getElem_cons_zero, List.setIfInBounds_toArray, List.set_cons_zero, List.set_cons_succ]
              refine wpAnyH_take (i := 13) (v := ?_) rfl (by kernel_rfl) (by kernel_rfl) (by kernel_rfl) (fun _ _ _ h => h) (Or.inl ⟨by rfl, ?_⟩) (by assumption) ?_
              rotate_left
              · (intro w hSw; (try dsimp only at hSw); go_simp; (try with_reducible rfl))
              try simp only [Act.put, List.getElem_toArray, List.getElem_cons_succ, List.getElem_cons_zero, List.setIfInBounds_toArray, List.set_cons_zero, List.set_cons_succ]
              refine wpAnyH_ready (rs := [14]) (by kernel_rfl) (by simp) ?_
              refine (AllReadyH.cons rfl (fun K hK => ?_) AllReadyH.nil)
              go_simp
              refine hK.out _ _ trivial (fun hHeld => ?_)
              clear hK K
              try simp only [Act.put, List.getElem_toArray, List.getElem_cons_succ, List.getElem_cons_zero, List.setIfInBounds_toArray, List.set_cons_zero, List.set_cons_succ]
              refine wpAnyH_done (by kernel_rfl) ?_ _
              go_wp2
              go_roundw
              case rel => exact ⟨k + 1, _, by omega, by go_num, ⟨by rw [HYS.out]; exact HN5.out⟩⟩
              case measure => simp [intOf] <;> omega
          · obtain rfl : k = n := by omega
            have hys : (xs.take k).map (fun x => (x + i) % (u : Int)) = xs.map fun x => (x + i) % (u : Int) := by rw [← HN.out, List.take_length]
            rw [hys] at HDI
            obtain ⟨ys, hy⟩ : ∃ ys, xs.map (fun x => (x + i) % (u : Int)) = ys := ⟨_, rfl⟩
            have HY2 : Kept (srt ys = dvL u xs i) := ⟨by rw [← hy]; exact srt_shift HD.out hiv⟩
            have hyl : ys.length = k := by rw [← hy, List.length_map, HN.out]
            rw [hy] at HDI
            obtain ⟨ra, rc, hRi, _, _⟩ := HDI.out.now.sl.form
            rw [hyl] at hRi
            have HSO := Kept.mk (sort_mine HDI.out.now (fun e => h0 (by rw [← hyl, e]; rfl)) (by omega))
            rw [hRi] at HSO
            have c0 := HDI.out.dev.row.cell hiv
            rw [hRi] at c0
            clear hys hy hyl
            go_wp2_with fail
            refine HSO.out.mono ?_
            rintro e w5 ⟨rfl, hm5, hg5⟩
            have HN5 := Kept.mk (HDI.out.done (by rw [← HY2.out, hRi]; exact hm5) (by rw [hRi]; exact hg5))
            have HNX := Kept.mk (fun (h : i + 1 < u) => HDI.out.dev.nil (i + 1) (by omega) h)
            clear hm5 hg5
            go_wp2
            go_roundw
            case rel => exact ⟨i + 1, _, by omega, by go_num, ⟨HN5.out, HNX.out⟩⟩
            case measure => simp [intOf] <;> omega
      · obtain rfl : i = u := by omega
        have HF := Kept.mk (HY.out wr (some ⟨w1.heap.size, 0, none⟩) i hdv.out.1.bel (Nat.le_refl _) (by unfold maxLen; omega) hdv.out.1.sls)
        go_wp2
        exact bodyPost_ret (v := .tuple #[.slice (some ⟨w1.heap.size, 0, none⟩) i i, .int .i64 0]) (by simp [results, Tryz.results9, go_sem]) rfl HF.out
end Go.Proofs.YtalahdkhglagpaaGreat
