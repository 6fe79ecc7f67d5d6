/-
  Texts of the proof, merged by program: Czz Inz Fm Fn Fo Fp Gau.
-/
import Derived.Test.YtfhhnfpapgfnmaaGreatV4
import Derived.Test.YtfhhnfpapgfnmaaGreatV8
import Derived.Test.YtfhhnfpapgfnmaaGreatV7
import Derived.Test.YtfhhnfpapgfnmaaGreatV5
set_option linter.unusedVariables false
set_option linter.unusedSimpArgs false
namespace Go.Proofs.YtfhhnfpapgfnmaaGreat
open Go Go.RowKit
/-! A slice of integers of the call's own: two cells each. -/
theorem Num.keep {L : Nat} {w w' : World} {v : Value} {n : Int} {g : Nat} {cs : Array Value} {T : TypeId} {fr : Nat × Nat} (h : Num L w v n) (hg : w.heap[g]? = some (.cells cs T fr)) (hc : ∀ (i : Nat) (m : Int), cs[i]? ≠ some (Value.int .u64 m)) (hgr : w.grownBy w' (some g)) : Num L w' v n := by
  obtain ⟨xs, h1, h2⟩ := h
  exact ⟨xs, h1.kept hgr (fun k hk e => h1.not_boxT hg hc (hk.trans e.symm)), h2⟩
theorem IntV.keep {L : Nat} {w w' : World} {v : Value} {z : Int} {g : Nat} {cs : Array Value} {T : TypeId} {fr : Nat × Nat} (h : IntV L w v z) (hg : w.heap[g]? = some (.cells cs T fr)) (hc : ∀ (i : Nat) (m : Int), cs[i]? ≠ some (Value.int .u64 m)) (hgr : w.grownBy w' (some g)) : IntV L w' v z :=
  let ⟨sb, sv, e, h1, hn⟩ := h; ⟨sb, sv, e, h1, hn.keep hg hc hgr⟩
/-- Block g holds N integers. -/
def Cz (w : World) (g N : Nat) (F : Nat → Int) : Prop := ∃ cur : Array Value, w.heap[g]? = some (.cells cur 24 (0, 0)) ∧ cur.size = 2 * N ∧
  ∀ d, d < N → ∃ (s : Bool) (ao : Option Addr) (k c : Nat), cur[d * 2]? = some (.bool s) ∧ cur[d * 2 + 1]? = some (.slice ao k c) ∧ IntV 1 w (.agg #[.bool s, .slice ao k c]) (F d)
theorem Cz.lt {w : World} {g N : Nat} {F : Nat → Int} (h : Cz w g N F) : g < w.heap.size := by
  obtain ⟨cur, h1, _⟩ := h
  exact (Array.getElem?_eq_some_iff.1 h1).1
theorem Cz.below {w w' : World} {g N : Nat} {F : Nat → Int} (h : Cz w g N F) (hb : Below w.heap.size w w') : Cz w' g N F := by
  have hl := h.lt
  obtain ⟨cur, h1, h2, h3⟩ := h
  refine ⟨cur, (hb.block _ hl).trans h1, h2, fun d hd => ?_⟩
  obtain ⟨s, ao, k, c, a1, a2, a3⟩ := h3 d hd
  exact ⟨s, ao, k, c, a1, a2, a3.below hb⟩
theorem Cz.at {w : World} {g N : Nat} {F : Nat → Int} (h : Cz w g N F) {d : Nat} (hd : d < N) : ∃ (s : Bool) (ao : Option Addr) (k c : Nat), w.cell? ⟨g, d * 2, none⟩ = some (.bool s) ∧ w.cell? ⟨g, d * 2 + 1, none⟩ = some (.slice ao k c) ∧ IntV 1 w (.agg #[.bool s, .slice ao k c]) (F d) := by
  obtain ⟨cur, h1, h2, h3⟩ := h
  obtain ⟨s, ao, k, c, a1, a2, a3⟩ := h3 d hd
  exact ⟨s, ao, k, c, by rw [cell_of_row w g _ cur _ (0, 0) h1]; exact a1, by rw [cell_of_row w g _ cur _ (0, 0) h1]; exact a2, a3⟩
theorem Cz.free {w : World} {g N : Nat} {F : Nat → Int} (h : Cz w g N F) (i : Nat) : w.frozen? ⟨g, i, none⟩ = false := by
  obtain ⟨cur, h1, _⟩ := h
  exact frozen_of_row w g i cur _ h1
theorem Cz.no_int {cur : Array Value} {N : Nat} (h2 : cur.size = 2 * N) (h3 : ∀ d, d < N → ∃ (s : Bool) (ao : Option Addr) (k c : Nat), cur[d * 2]? = some (.bool s) ∧ cur[d * 2 + 1]? = some (.slice ao k c)) (i : Nat) (m : Int) : cur[i]? ≠ some (Value.int .u64 m) := fun e => by
  have hi : i < cur.size := (Array.getElem?_eq_some_iff.1 e).1
  obtain ⟨s, ao, k, c, a1, a2⟩ := h3 (i / 2) (by omega)
  rcases Nat.mod_two_eq_zero_or_one i with h | h
  · rw [show i / 2 * 2 = i by omega, e] at a1
    cases a1
  · rw [show i / 2 * 2 + 1 = i by omega, e] at a2
    cases a2
theorem Cz.set {w : World} {g N : Nat} {F : Nat → Int} (h : Cz w g N F) {i : Nat} (hi : i < N) {s : Bool} {ao : Option Addr} {k c : Nat} {z : Int} (hz : IntV 1 w (.agg #[.bool s, .slice ao k c]) z) : Cz ((w.setCell ⟨g, i * 2, none⟩ (.bool s)).setCell ⟨g, i * 2 + 1, none⟩ (.slice ao k c)) g N (fun d => if d = i then z else F d) := by
  obtain ⟨cur, h1, h2, h3⟩ := h
  have hg : w.grownBy ((w.setCell ⟨g, i * 2, none⟩ (.bool s)).setCell ⟨g, i * 2 + 1, none⟩ (.slice ao k c)) (some g) := growSet (growSet (growRefl w _) _ _) _ _
  have hni := Cz.no_int h2 (fun d hd => by obtain ⟨s, ao, k, c, a1, a2, _⟩ := h3 d hd; exact ⟨s, ao, k, c, a1, a2⟩)
  refine ⟨(cur.setIfInBounds (i * 2) (.bool s)).setIfInBounds (i * 2 + 1) (.slice ao k c), heap_setCell_same _ g _ _ _ _ (heap_setCell_same w g _ cur _ _ h1), by simp [h2], fun d hd => ?_⟩
  by_cases e : d = i
  · subst e
    refine ⟨s, ao, k, c, ?_, ?_, by show IntV 1 _ _ (if d = d then z else F d); rw [if_pos rfl]; exact hz.keep h1 hni hg⟩
    · rw [Array.getElem?_setIfInBounds_ne (by omega), Array.getElem?_setIfInBounds_self_of_lt (by omega)]
    · rw [Array.getElem?_setIfInBounds_self_of_lt (by simp; omega)]
  · obtain ⟨s', ao', k', c', a1, a2, a3⟩ := h3 d hd
    refine ⟨s', ao', k', c', ?_, ?_, by show IntV 1 _ _ (if d = i then z else F d); rw [if_neg e]; exact a3.keep h1 hni hg⟩
    · rw [Array.getElem?_setIfInBounds_ne (by omega), Array.getElem?_setIfInBounds_ne (by omega)]; exact a1
    · rw [Array.getElem?_setIfInBounds_ne (by omega), Array.getElem?_setIfInBounds_ne (by omega)]; exact a2
theorem IntV.zero (L : Nat) (w : World) : IntV L w (.agg #[.bool false, .slice none 0 0]) 0 := ⟨false, _, rfl, rfl, ⟨[], Sl.nil _ _, by simp [Dg.Wf], by simp [Dg.Nz], rfl, by simp⟩⟩
theorem Cz.start {w : World} {g N : Nat} (h : w.heap[g]? = some (.cells (madeCells #[.bool false, .slice none 0 0] (N * 2)) 24 (0, 0))) : Cz w g N (fun _ => 0) := by
  refine ⟨_, h, by rw [size_madeCells]; omega, fun d hd => ⟨false, none, 0, 0, ?_, ?_, IntV.zero 1 w⟩⟩
  · unfold madeCells
    rw [Array.getElem?_map, Array.getElem?_range, if_pos (by omega)]
    simp [show d * 2 % 2 = 0 by omega]
  · unfold madeCells
    rw [Array.getElem?_map, Array.getElem?_range, if_pos (by omega)]
    simp [show (d * 2 + 1) % 2 = 1 by omega]
end Go.Proofs.YtfhhnfpapgfnmaaGreat

set_option linter.unusedVariables false
set_option linter.unusedSimpArgs false
namespace Go.Proofs.YtfhhnfpapgfnmaaGreat
open Go Go.RowKit
set_option maxRecDepth 20000 in
set_option maxHeartbeats 2000000 in
/-- The sum of two integers of the ring. -/
theorem isum_any {La Lb : Nat} {va vb : Value} {y z : Int} {w : World} (ha : IntV La w va y) (hb : IntV Lb w vb z) (h1 : La ≤ 1000) (h2 : Lb ≤ 1000) (hsm : smallB (y + z).natAbs = true) :
    Calls Tryz.prog 130 #[.agg #[], va, vb] w (RetInt 625 w (y + z)) := by
  have ha' := ha
  have hb' := hb
  obtain ⟨sa, ua, rfl, hsa, hna⟩ := ha
  obtain ⟨sb, ub, rfl, hsb, hnb⟩ := hb
  obtain ⟨ao, ka, ca, rfl⟩ := hna.form
  obtain ⟨bo, kb, cb, rfl⟩ := hnb.form
  have HX0 : Kept (Bxs w [.cells #[] 56, .cells #[.bool sa, .slice ao ka ca] 24, .cells #[.bool sb, .slice bo kb cb] 24, .cells #[.bool false, .slice none 0 0] 24] ((((w.alloc (.cells #[] 56)).alloc (.cells #[.bool sa, .slice ao ka ca] 24)).alloc (.cells #[.bool sb, .slice bo kb cb] 24)).alloc (.cells #[.bool false, .slice none 0 0] 24))) := ⟨((((Bxs.start w).alloc (by simp) _).alloc (by simp) _).alloc (by simp) _).alloc (by simp) _⟩
  have HA := Kept.mk (ha'.below HX0.out.1)
  have HB := Kept.mk (hb'.below HX0.out.1)
  obtain ⟨i0, i1, _⟩ := two_cells HX0.out.b1
  obtain ⟨j0, j1, _⟩ := two_cells (HX0.out.2.2 2 _ rfl)
  clear hsa hsb ha' hb'
  go_enter Tryz.func130, Tryz.ntmps130
  go_wp2_with fail
  refine (add_any HA.out HB.out (by omega) (by omega)).mono ?_
  intro e w1 hy
  obtain ⟨hb1, s, ao2, k2, c2, rfl, hI⟩ := YdRet.yes hy hsm
  have HX1 := Kept.mk (HX0.out.below hb1)
  have HI := Kept.mk hI
  have h3 := HX1.out.2.2 3 _ rfl
  have hl : w.heap.size + 3 < w1.heap.size := (Array.getElem?_eq_some_iff.1 h3).1
  obtain ⟨c0, c1, f0, f1⟩ := two_cells h3
  clear hy hb1 hI
  go_wp2
  have hset := two_set h3 (.bool s) (.slice ao2 k2 c2)
  have hgr : w1.grownBy ((w1.setCell ⟨w.heap.size + 3, 0, none⟩ (.bool s)).setCell ⟨w.heap.size + 3, 1, none⟩ (.slice ao2 k2 c2)) (some (w.heap.size + 3)) := growSet (growSet (growRefl _ _) _ _) _ _
  have hI2 := HI.out.keep h3 (fun i m e => by rcases i with _ | _ | i <;> simp at e) hgr
  have hbA : Below ((w1.setCell ⟨w.heap.size + 3, 0, none⟩ (.bool s)).setCell ⟨w.heap.size + 3, 1, none⟩ (.slice ao2 k2 c2)).heap.size ((w1.setCell ⟨w.heap.size + 3, 0, none⟩ (.bool s)).setCell ⟨w.heap.size + 3, 1, none⟩ (.slice ao2 k2 c2)) (((w1.setCell ⟨w.heap.size + 3, 0, none⟩ (.bool s)).setCell ⟨w.heap.size + 3, 1, none⟩ (.slice ao2 k2 c2)).alloc (.cells #[.bool s, .slice ao2 k2 c2] 24)) := (Below.refl _ _).alloc (Nat.le_refl _) _
  have hbb := ((HX1.out.1.setCell (p := ⟨w.heap.size + 3, 0, none⟩) (by simp) (.bool s)).setCell (p := ⟨w.heap.size + 3, 1, none⟩) (by simp) (.slice ao2 k2 c2))
  obtain ⟨q0, q1, _⟩ := two_cells ((hbA.block _ (Array.getElem?_eq_some_iff.1 hset).1).trans hset)
  exact bodyPost_ret (v := .agg #[.bool s, .slice ao2 k2 c2]) (by simp [results, Tryz.results130, go_sem, q0, q1]) rfl ⟨hbb.trans (hbA.mono hbb.size), _, rfl, hI2.below hbA⟩
set_option maxRecDepth 20000 in
set_option maxHeartbeats 2000000 in
/-- The product of two integers of the ring. -/
theorem iproduct_any {La Lb : Nat} {va vb : Value} {y z : Int} {w : World} (ha : IntV La w va y) (hb : IntV Lb w vb z) (h1 : La ≤ 1000) (h2 : Lb ≤ 1000) (hsm : smallB (y * z).natAbs = true) :
    Calls Tryz.prog 129 #[.agg #[], va, vb] w (RetInt 625 w (y * z)) := by
  have ha' := ha
  have hb' := hb
  obtain ⟨sa, ua, rfl, hsa, hna⟩ := ha
  obtain ⟨sb, ub, rfl, hsb, hnb⟩ := hb
  obtain ⟨ao, ka, ca, rfl⟩ := hna.form
  obtain ⟨bo, kb, cb, rfl⟩ := hnb.form
  have HX0 : Kept (Bxs w [.cells #[] 56, .cells #[.bool sa, .slice ao ka ca] 24, .cells #[.bool sb, .slice bo kb cb] 24, .cells #[.bool false, .slice none 0 0] 24] ((((w.alloc (.cells #[] 56)).alloc (.cells #[.bool sa, .slice ao ka ca] 24)).alloc (.cells #[.bool sb, .slice bo kb cb] 24)).alloc (.cells #[.bool false, .slice none 0 0] 24))) := ⟨((((Bxs.start w).alloc (by simp) _).alloc (by simp) _).alloc (by simp) _).alloc (by simp) _⟩
  have HA := Kept.mk (ha'.below HX0.out.1)
  have HB := Kept.mk (hb'.below HX0.out.1)
  obtain ⟨i0, i1, _⟩ := two_cells HX0.out.b1
  obtain ⟨j0, j1, _⟩ := two_cells (HX0.out.2.2 2 _ rfl)
  clear hsa hsb ha' hb'
  go_enter Tryz.func129, Tryz.ntmps129
  go_wp2_with fail
  refine (mul_any HA.out HB.out (by omega) (by omega)).mono ?_
  intro e w1 hy
  obtain ⟨hb1, s, ao2, k2, c2, rfl, hI⟩ := YdRet.yes hy hsm
  have HX1 := Kept.mk (HX0.out.below hb1)
  have HI := Kept.mk hI
  have h3 := HX1.out.2.2 3 _ rfl
  have hl : w.heap.size + 3 < w1.heap.size := (Array.getElem?_eq_some_iff.1 h3).1
  obtain ⟨c0, c1, f0, f1⟩ := two_cells h3
  clear hy hb1 hI
  go_wp2
  have hset := two_set h3 (.bool s) (.slice ao2 k2 c2)
  have hgr : w1.grownBy ((w1.setCell ⟨w.heap.size + 3, 0, none⟩ (.bool s)).setCell ⟨w.heap.size + 3, 1, none⟩ (.slice ao2 k2 c2)) (some (w.heap.size + 3)) := growSet (growSet (growRefl _ _) _ _) _ _
  have hI2 := HI.out.keep h3 (fun i m e => by rcases i with _ | _ | i <;> simp at e) hgr
  have hbA : Below ((w1.setCell ⟨w.heap.size + 3, 0, none⟩ (.bool s)).setCell ⟨w.heap.size + 3, 1, none⟩ (.slice ao2 k2 c2)).heap.size ((w1.setCell ⟨w.heap.size + 3, 0, none⟩ (.bool s)).setCell ⟨w.heap.size + 3, 1, none⟩ (.slice ao2 k2 c2)) (((w1.setCell ⟨w.heap.size + 3, 0, none⟩ (.bool s)).setCell ⟨w.heap.size + 3, 1, none⟩ (.slice ao2 k2 c2)).alloc (.cells #[.bool s, .slice ao2 k2 c2] 24)) := (Below.refl _ _).alloc (Nat.le_refl _) _
  have hbb := ((HX1.out.1.setCell (p := ⟨w.heap.size + 3, 0, none⟩) (by simp) (.bool s)).setCell (p := ⟨w.heap.size + 3, 1, none⟩) (by simp) (.slice ao2 k2 c2))
  obtain ⟨q0, q1, _⟩ := two_cells ((hbA.block _ (Array.getElem?_eq_some_iff.1 hset).1).trans hset)
  exact bodyPost_ret (v := .agg #[.bool s, .slice ao2 k2 c2]) (by simp [results, Tryz.results129, go_sem, q0, q1]) rfl ⟨hbb.trans (hbA.mono hbb.size), _, rfl, hI2.below hbA⟩
end Go.Proofs.YtfhhnfpapgfnmaaGreat

set_option linter.unusedVariables false
set_option linter.unusedSectionVars false
set_option linter.unusedSimpArgs false
namespace Go.Proofs.YtfhhnfpapgfnmaaGreat
namespace FFld
theorem isP_iff (n : Nat) : isP n = true ↔ Prime n := ⟨isP_prime, isP_of⟩
theorem isP_none {n k : Nat} (hk : 2 ≤ k) (h : ∀ i, 2 ≤ i → i < k → ¬ i ∣ n) (hn : n < k * k) : isP n = decide (1 < n) := by
  by_cases h1 : 1 < n
  · rw [decide_eq_true h1, isP_iff]
    refine ⟨h1, fun d hd => ?_⟩
    apply Classical.byContradiction
    intro hc
    have hd0 : d ≠ 0 := fun e => by subst e; rw [Nat.zero_dvd] at hd; omega
    obtain ⟨c, hcc⟩ := hd
    have hc0 : c ≠ 0 := fun e => by subst e; omega
    have hc1 : c ≠ 1 := fun e => by subst e; omega
    have hdk : k ≤ d := by
      rcases Nat.lt_or_ge d k with hl | hl
      · exact absurd ⟨c, hcc⟩ (h d (by omega) hl)
      · exact hl
    have hck : k ≤ c := by
      rcases Nat.lt_or_ge c k with hl | hl
      · exact absurd ⟨d, by rw [hcc, Nat.mul_comm]⟩ (h c (by omega) hl)
      · exact hl
    have := Nat.mul_le_mul hdk hck
    omega
  · rw [decide_eq_false h1]
    apply Bool.eq_false_iff.2
    intro hp
    have := (isP_prime hp).1
    omega
def ints (l : List Nat) : List Int := l.map (fun c : Nat => (c : Int))
theorem ints_len (l : List Nat) : (ints l).length = l.length := by simp [ints]
theorem ints_get (l : List Nat) (i : Nat) : (ints l)[i]?.getD 0 = ((l[i]?.getD 0 : Nat) : Int) := by
  simp only [ints, List.getElem?_map]
  cases l[i]? <;> rfl
theorem ints_append (l m : List Nat) : ints (l ++ m) = ints l ++ ints m := by simp [ints]
theorem ints_set (l : List Nat) (i v : Nat) : (ints l).set i (v : Int) = ints (l.set i v) := by simp [ints, List.map_set]
theorem ints_take (l : List Nat) (n : Nat) : (ints l).take n = ints (l.take n) := by simp [ints, List.map_take]
theorem ints_rep (n : Nat) : List.replicate n (0 : Int) = ints (List.replicate n 0) := by simp [ints]
theorem getD_lt {p : Nat} (hp : 0 < p) {l : List Nat} (h : ∀ c ∈ l, c < p) (i : Nat) : l[i]?.getD 0 < p := by
  cases e : l[i]? with
  | none => exact hp
  | some c => exact h c (List.mem_of_getElem? e)
/-- The digits of n. -/
structure Digs (p n : Nat) (l : List Nat) : Prop where
  val : num p l = n
  lt : ∀ c ∈ l, c < p
  nz : l.getLast? ≠ some 0
theorem num_snoc' (p c : Nat) (l : List Nat) : num p (l ++ [c]) = num p l + p ^ l.length * c := by
  induction l with
  | nil => simp [num]
  | cons d l ih => simp only [List.cons_append, num, ih, List.length_cons, Nat.pow_succ', Nat.mul_add, Nat.mul_assoc]; omega
structure DgAt (p n : Nat) (l : List Nat) (cur : Nat) : Prop where
  val : num p l + p ^ l.length * cur = n
  lt : ∀ c ∈ l, c < p
  nz : cur = 0 → l.getLast? ≠ some 0
theorem DgAt.start (p n : Nat) : DgAt p n [] n := ⟨by simp [num], fun c h => by simp at h, fun _ => by simp⟩
theorem DgAt.next {p n cur : Nat} {l : List Nat} (h : DgAt p n l cur) (hp : 2 ≤ p) (hc : 0 < cur) : DgAt p n (l ++ [cur % p]) (cur / p) := by
  refine ⟨?_, ?_, ?_⟩
  · rw [num_snoc', List.length_append, List.length_singleton, Nat.pow_succ, Nat.mul_assoc, Nat.add_assoc, ← Nat.mul_add, Nat.mod_add_div]
    exact h.val
  · intro c hc'
    rcases List.mem_append.1 hc' with h1 | h1
    · exact h.lt c h1
    · rw [List.mem_singleton.1 h1]; exact Nat.mod_lt _ (by omega)
  · intro h0
    rw [List.getLast?_append]
    simp
    have := Nat.mod_add_div cur p
    rw [h0] at this
    simp at this
    omega
theorem DgAt.done {p n : Nat} {l : List Nat} (h : DgAt p n l 0) : Digs p n l := ⟨by simpa using h.val, h.lt, h.nz rfl⟩
theorem DgAt.len {p n cur : Nat} {l : List Nat} (h : DgAt p n l cur) (hp : 2 ≤ p) (hc : 0 < cur) : 2 ^ l.length ≤ n := by
  have h1 := h.val
  have h2 : p ^ l.length * 1 ≤ p ^ l.length * cur := Nat.mul_le_mul_left _ hc
  have h3 : 2 ^ l.length ≤ p ^ l.length := Nat.pow_le_pow_left hp _
  omega
theorem len_of_pow {l n : Nat} (h : 2 ^ l ≤ n) (hn : n ≤ 1099511627776) : l ≤ 40 := by
  rcases Nat.lt_or_ge 40 l with h1 | h1
  · have := Nat.pow_le_pow_right (n := 2) (by omega) (show 41 ≤ l from h1)
    rw [show (2 : Nat) ^ 41 = 2199023255552 from rfl] at this
    generalize (2 : Nat) ^ l = z at *
    omega
  · exact h1
theorem snoc_of_ne {l : List Nat} (h : l ≠ []) : ∃ m c, l = m ++ [c] := ⟨l.dropLast, l.getLast h, (List.dropLast_concat_getLast h).symm⟩
theorem num_ge {p : Nat} {l : List Nat} (h : l.getLast? ≠ some 0) (hl : l ≠ []) : p ^ (l.length - 1) ≤ num p l := by
  obtain ⟨m, c, rfl⟩ := snoc_of_ne hl
  rw [num_snoc']
  simp at h ⊢
  have : p ^ m.length * 1 ≤ p ^ m.length * c := Nat.mul_le_mul_left _ (by omega)
  omega
theorem Digs.len {p n k : Nat} {l : List Nat} (h : Digs p n l) (hp : 2 ≤ p) (hn : n < p ^ k) : l.length ≤ k := by
  rcases Nat.lt_or_ge k l.length with h1 | h1
  · have h2 := num_ge (p := p) h.nz (fun e => by subst e; simp at h1)
    have h3 : p ^ k ≤ p ^ (l.length - 1) := Nat.pow_le_pow_right (by omega) (by omega)
    rw [h.val] at h2
    omega
  · exact h1
theorem Digs.zero {p : Nat} {l : List Nat} (h : Digs p 0 l) (hp : 2 ≤ p) : l = [] := by
  have := h.len hp (k := 0) (by simp)
  exact List.eq_nil_of_length_eq_zero (by omega)
theorem Digs.nil_iff {p n : Nat} {l : List Nat} (h : Digs p n l) (hp : 2 ≤ p) : l = [] ↔ n = 0 := by
  constructor
  · intro e; rw [← h.val, e]; rfl
  · intro e; subst e; exact h.zero hp
/-- A monic polynomial of degree k. -/
theorem Digs.monic {p n k : Nat} {l : List Nat} (h : Digs p n l) (hp : 2 ≤ p) (h1 : p ^ k ≤ n) (h2 : n < 2 * p ^ k) : ∃ m, l = m ++ [1] ∧ m.length = k := by
  have hk1 : n < p ^ (k + 1) := by
    have : 2 * p ^ k ≤ p * p ^ k := Nat.mul_le_mul_right _ hp
    rw [Nat.pow_succ']
    omega
  have hl := h.len hp hk1
  have hne : l ≠ [] := fun e => by
    have := (h.nil_iff hp).1 e
    have : 0 < p ^ k := Nat.pow_pos (by omega)
    omega
  obtain ⟨m, c, rfl⟩ := snoc_of_ne hne
  have hmlt := num_lt (p := p) (by omega) m (fun c hc => h.lt c (List.mem_append_left _ hc))
  have hv := h.val
  rw [num_snoc'] at hv
  simp at hl
  have hmk : m.length = k := by
    rcases Nat.lt_or_ge m.length k with hlt | hge
    · have hc := h.lt c (by simp)
      have e1 : p ^ m.length * c + p ^ m.length ≤ p ^ m.length * p := by rw [← Nat.mul_succ]; exact Nat.mul_le_mul_left _ hc
      rw [← Nat.pow_succ] at e1
      have e2 : p ^ (m.length + 1) ≤ p ^ k := Nat.pow_le_pow_right (by omega) hlt
      have e3 : p ^ m.length.succ = p ^ (m.length + 1) := rfl
      omega
    · omega
  refine ⟨m, ?_, hmk⟩
  rw [hmk] at hv hmlt
  have hpos : 0 < p ^ k := Nat.pow_pos (by omega)
  have hc1 : c = 1 := by
    rcases Nat.lt_trichotomy c 1 with hlt | he | hgt
    · have : c = 0 := by omega
      subst this
      omega
    · exact he
    · have : p ^ k * 2 ≤ p ^ k * c := Nat.mul_le_mul_left _ hgt
      omega
  rw [hc1]
theorem num_drop {p : Nat} {l : List Nat} {i : Nat} (hi : i < l.length) : num p (l.drop i) = l[i]?.getD 0 + p * num p (l.drop (i + 1)) := by
  rw [List.drop_eq_getElem_cons hi]
  simp [num, hi]
theorem num_drop_lt {p : Nat} (hp : 0 < p) {l : List Nat} (h : ∀ c ∈ l, c < p) (i : Nat) : num p (l.drop i) < p ^ (l.length - i) := by
  have := num_lt hp (l.drop i) (fun c hc => h c (List.mem_of_mem_drop hc))
  rwa [List.length_drop] at this
theorem mem_set {p v : Nat} {l : List Nat} {i : Nat} (h : ∀ c ∈ l, c < p) (hv : v < p) : ∀ c ∈ l.set i v, c < p := fun c hc => by
  rcases List.mem_or_eq_of_mem_set hc with h1 | h1
  · exact h c h1
  · omega
/-- Products of polynomials: the rows up to i, and of row i the places up to j, are added. -/
structure TmAt (p : Nat) (x y o : List Nat) (i j : Nat) : Prop where
  len : o.length = x.length + y.length - 1
  lt : ∀ c ∈ o, c < p
  val : ∀ k m, PK p k m → evl p k m 1 o = padd p k (evl p k m (evl p k m 1 y) (x.take i)) (pscl p k (x[i]?.getD 0) (shn p k m (evl p k m 1 (y.take j)) i))
/-- The product of two elements, before it is reduced. -/
structure Tms (p a b c n : Nat) : Prop where
  lt : c < p ^ n
  val : ∀ k m, PK p k m → a < p ^ k → b < p ^ k → pmul p k m 1 n c = pmul p k m a k b
/-- The rest of a polynomial (n digits at most) by a monic one: its value at x. -/
structure RsAt (p k y : Nat) (V : Nat) (x : List Nat) : Prop where
  lt : ∀ c ∈ x, c < p
  val : evl p k y 1 x = V
/-- Within a row: c times the first i coefficients of y were added from the place at on; the top c' = p - c of x stands yet. -/
structure RwAt (p k m at_ c V : Nat) (y x0 x : List Nat) (i : Nat) : Prop where
  len : x.length = x0.length
  lt : ∀ c ∈ x, c < p
  val : evl p k m 1 x = padd p k V (pscl p k c (shn p k m (evl p k m 1 (y.take i)) at_))
  old : ∀ j, at_ + i ≤ j → x[j]?.getD 0 = x0[j]?.getD 0
  top : i = y.length → x[x0.length - 1]?.getD 0 = 0
theorem RwAt.start {p k m V : Nat} {x : List Nat} (hk : PK p k m) (h : RsAt p k m V x) (at_ c : Nat) (y : List Nat) (hy : 1 ≤ y.length) : RwAt p k m at_ c V y x x 0 := by
  refine ⟨rfl, h.lt, ?_, fun j hj => rfl, fun e => by omega⟩
  have hV : V < p ^ k := by rw [← h.val]; exact evl_lt hk _ _
  rw [h.val]
  simp only [List.take_zero, evl]
  rw [shn_zero hk, pscl_nil hk, padd_zero hk _ hV]
theorem RwAt.next {p k m at_ c V i d : Nat} {y x0 x : List Nat} (hk : PK p k m) (h : RwAt p k m at_ c V y x0 x i) (hi : i < y.length) (hx : at_ + y.length = x0.length) (hc : x0[x0.length - 1]?.getD 0 + c = p) (hy : y[y.length - 1]?.getD 0 = 1) (hd : (x[at_ + i]?.getD 0 + c * y[i]?.getD 0) % p = d) : RwAt p k m at_ c V y x0 (x.set (at_ + i) d) (i + 1) := by
  subst hd
  refine ⟨by rw [List.length_set]; exact h.len, mem_set h.lt (Nat.mod_lt _ hk.p0), evl_row hk 1 c at_ x y V i hi (by have := h.len; omega) h.val, fun j hj => ?_, fun e => ?_⟩
  · rw [List.getElem?_set_ne (by omega)]
    exact h.old j (by omega)
  · have hl := h.len
    have e1 : x0.length - 1 = at_ + i := by omega
    have e2 : i = y.length - 1 := by omega
    rw [e1, List.getElem?_set_self (by omega), Option.getD_some, h.old _ (Nat.le_refl _), ← e1, e2, hy, Nat.mul_one, hc, Nat.mod_self]
theorem RwAt.done {p k m at_ c V : Nat} {y x0 x : List Nat} (hk : PK p k m) (h : RwAt p k m at_ c V y x0 x y.length) (hy : evl p k m 1 y = 0) (hV : V < p ^ k) : RsAt p k m V x := by
  refine ⟨h.lt, ?_⟩
  rw [h.val, List.take_length, hy, shn_zero hk, pscl_nil hk, padd_zero hk _ hV]
theorem RsAt.cut {p k m V : Nat} {x : List Nat} (hk : PK p k m) (h : RsAt p k m V x) {n : Nat} (hn : n + 1 = x.length) (h0 : x[n]?.getD 0 = 0) : RsAt p k m V (x.take n) := by
  refine ⟨fun c hc => h.lt c (List.mem_of_mem_take hc), ?_⟩
  have e : x = x.take n ++ [0] := by
    conv => lhs; rw [← List.take_length (l := x), ← hn, take_snoc hk x n (by omega), h0]
  rw [← h.val]
  conv => rhs; rw [e, evl_trim hk]
theorem RsAt.done {p k m V : Nat} {x : List Nat} (hk : PK p k m) (h : RsAt p k m V x) (hl : x.length ≤ k) : num p x = V := by
  rw [← h.val, evl_one hk x h.lt hl]
theorem Digs.rs {p k m a n : Nat} {x : List Nat} (hk : PK p k m) (h : Digs p a x) (ha : a < p ^ n) : RsAt p k m (pmul p k m 1 n a) x := by
  refine ⟨h.lt, ?_⟩
  conv => rhs; rw [← h.val]
  exact (evl_pmul hk 1 x n h.lt (h.len hk.p2 ha)).symm
/-- The coefficients of a monic polynomial of degree k. -/
structure Mon (p k m : Nat) (y : List Nat) : Prop where
  len : y.length = k + 1
  top : y[y.length - 1]?.getD 0 = 1
  lt : ∀ c ∈ y, c < p
  zero : evl p k m 1 y = 0
theorem Digs.mon {p k m : Nat} {y : List Nat} (hk : PK p k m) (h : Digs p m y) (h1 : p ^ k ≤ m) (h2 : m < 2 * p ^ k) : Mon p k m y := by
  obtain ⟨z, rfl, hz⟩ := h.monic hk.p2 h1 h2
  refine ⟨by simp [hz], by simp, h.lt, ?_⟩
  exact evl_modulus hk z (fun c hc => h.lt c (List.mem_append_left _ hc)) hz h.val.symm
theorem ofd_succ (p : Nat) : ∀ (j : Nat) (f : Nat → Nat), ofd p f (j + 1) = ofd p f j + p ^ j * f j := by
  intro j
  induction j with
  | zero => intro f; simp [ofd]
  | succ j ih =>
    intro f
    show f 0 + p * ofd p (fun i => f (i + 1)) (j + 1) = (f 0 + p * ofd p (fun i => f (i + 1)) j) + p ^ (j + 1) * f (j + 1)
    rw [ih (fun i => f (i + 1)), Nat.mul_add, ← Nat.mul_assoc, ← Nat.pow_succ', Nat.add_assoc]
theorem ofd_zeros (p : Nat) (f : Nat → Nat) (j : Nat) : ∀ (n : Nat), (∀ i, j ≤ i → i < j + n → f i = 0) → ofd p f (j + n) = ofd p f j := by
  intro n
  induction n with
  | zero => intro _; rfl
  | succ n ih => intro h; rw [← Nat.add_assoc, ofd_succ, ih (fun i h1 h2 => h i h1 (by omega)), h (j + n) (by omega) (by omega), Nat.mul_zero, Nat.add_zero]
/-- A loop over digits: after j of them. -/
structure DlAt (p : Nat) (f : Nat → Nat) (k j n u : Nat) : Prop where
  n : n = ofd p f j
  u : u = p ^ j
  jk : j ≤ k
theorem DlAt.start (p : Nat) (f : Nat → Nat) (k : Nat) : DlAt p f k 0 0 1 := ⟨rfl, rfl, Nat.zero_le _⟩
theorem DlAt.next {p k j n u : Nat} {f : Nat → Nat} (h : DlAt p f k j n u) (hj : j < k) : DlAt p f k (j + 1) (n + f j * u) (u * p) := by
  refine ⟨?_, by rw [h.u, Nat.pow_succ], hj⟩
  rw [ofd_succ, h.n, h.u, Nat.mul_comm]
theorem DlAt.done {p k j n u : Nat} {f : Nat → Nat} (h : DlAt p f k j n u) (hz : ∀ i, j ≤ i → f i = 0) : n = ofd p f k := by
  have hjk := h.jk
  rw [h.n]
  have := ofd_zeros p f j (k - j) (fun i h1 _ => hz i h1)
  rw [show j + (k - j) = k from by omega] at this
  exact this.symm
theorem DlAt.u_le {p k j n u : Nat} {f : Nat → Nat} (h : DlAt p f k j n u) (hp : 2 ≤ p) : u ≤ p ^ k := by
  rw [h.u]; exact Nat.pow_le_pow_right (by omega) h.jk
theorem DlAt.up_le {p k j n u : Nat} {f : Nat → Nat} (h : DlAt p f k j n u) (hp : 2 ≤ p) (hj : j < k) : u * p ≤ p ^ k := by
  rw [h.u, ← Nat.pow_succ]; exact Nat.pow_le_pow_right (by omega) hj
theorem DlAt.n_lt {p k j n u : Nat} {f : Nat → Nat} (h : DlAt p f k j n u) (hp : 2 ≤ p) (hf : ∀ i, f i < p) : n < p ^ k := by
  rw [h.n]; exact Nat.lt_of_lt_of_le (ofd_lt (by omega) j f hf) (Nat.pow_le_pow_right (by omega) h.jk)
theorem cur_zero {p a i j : Nat} (h : a / p ^ j = 0) (hp : 2 ≤ p) (hij : j ≤ i) : dig p a i = 0 := by
  have hpos : 0 < p ^ j := Nat.pow_pos (by omega)
  have : a < p ^ j := by
    rcases Nat.lt_or_ge a (p ^ j) with h1 | h1
    · exact h1
    · have := Nat.div_pos h1 hpos; omega
  exact dig_big (Nat.lt_of_lt_of_le this (Nat.pow_le_pow_right (by omega) hij))
theorem cur_pos {p a k j : Nat} (ha : a < p ^ k) (h : 0 < a / p ^ j) (hp : 2 ≤ p) : j < k := by
  rcases Nat.lt_or_ge j k with h1 | h1
  · exact h1
  · rw [Nat.div_eq_of_lt (Nat.lt_of_lt_of_le ha (Nat.pow_le_pow_right (by omega) h1))] at h; omega
theorem cur_next (p a j : Nat) : a / p ^ j / p = a / p ^ (j + 1) := by rw [Nat.div_div_eq_div_mul, Nat.pow_succ]
theorem neg_dig {p k m : Nat} (h : PK p k m) (a : Nat) : pscl p k (p - 1) a = ofd p (fun i => (p - dig p a i) % p) k := by
  refine ofd_congr k fun i _ => ?_
  have hp := h.p2
  have hd := dig_lt h.p0 a i
  generalize dig p a i = x at *
  obtain ⟨r, rfl⟩ : ∃ r, p = r + 1 := ⟨p - 1, by omega⟩
  simp only [Nat.add_sub_cancel]
  rcases Nat.eq_zero_or_pos x with h0 | h0
  · subst h0; simp
  · have e : x * r = (r + 1 - x) + (r + 1) * (x - 1) := by
      obtain ⟨y, rfl⟩ : ∃ y, x = y + 1 := ⟨x - 1, by omega⟩
      simp only [Nat.add_sub_cancel]
      rw [Nat.succ_mul, Nat.mul_comm (r + 1) y, Nat.mul_succ]
      omega
    rw [e, Nat.add_mul_mod_self_left]
end FFld
end Go.Proofs.YtfhhnfpapgfnmaaGreat

set_option linter.unusedVariables false
set_option linter.unusedSectionVars false
set_option linter.unusedSimpArgs false
namespace Go.Proofs.YtfhhnfpapgfnmaaGreat
namespace FFld
theorem pmul_k1 {p m : Nat} (h : PK p 1 m) (a b : Nat) (ha : a < p) (hb : b < p) : pmul p 1 m a 1 b = a * b % p := by
  have hh := pmul_lt h a 1 b
  have hd : dig p (pmul p 1 m a 1 b) 0 = a * b % p := by
    simp only [pmul]
    rw [pshf_zero h, padd_zero h _ (pscl_lt h _ _), dig_pscl h _ _ _ (by omega), dig_zero, Nat.mod_eq_of_lt hb, Nat.mod_mul_mod]
  rw [dig_zero, Nat.mod_eq_of_lt (by simpa using hh)] at hd
  exact hd
theorem padd_k1 {p m : Nat} (h : PK p 1 m) (a b : Nat) (ha : a < p) (hb : b < p) : padd p 1 a b = (a + b) % p := by
  have hh := padd_lt h a b
  have hd : dig p (padd p 1 a b) 0 = (a + b) % p := by
    rw [dig_padd h _ _ _ (by omega), dig_zero, dig_zero, Nat.mod_eq_of_lt ha, Nat.mod_eq_of_lt hb]
  rw [dig_zero, Nat.mod_eq_of_lt (by simpa using hh)] at hd
  exact hd
/-- Powers, as the programs take them: result times a ^ n is what is asked. -/
structure PwAt (p k m : Nat) (h : PK p k m) (V r a n : Nat) : Prop where
  rl : r < p ^ k
  al : a < p ^ k
  val : ((rng h).mul ⟨r, rl⟩ ((rng h).pow ⟨a, al⟩ n)).1 = V
def ppow {p k m : Nat} (h : PK p k m) (a n : Nat) : Nat := if ha : a < p ^ k then ((rng h).pow ⟨a, ha⟩ n).1 else 0
theorem ppow_lt {p k m : Nat} (h : PK p k m) (a n : Nat) : ppow h a n < p ^ k := by
  unfold ppow
  split
  · exact ((rng h).pow _ n).2
  · exact Nat.pow_pos h.p0
theorem PwAt.start {p k m : Nat} (h : PK p k m) (a n : Nat) (ha : a < p ^ k) : PwAt p k m h (ppow h a n) 1 a n := by
  refine ⟨h.one_lt, ha, ?_⟩
  unfold ppow
  rw [dif_pos ha]
  exact congrArg Subtype.val ((rng h).one_mul _)
theorem PwAt.even {p k m : Nat} {h : PK p k m} {V r a n : Nat} (hp : PwAt p k m h V r a n) (hn : n % 2 = 0) : PwAt p k m h V r (pmul p k m a k a) (n / 2) := by
  refine ⟨hp.rl, pmul_lt h _ _ _, ?_⟩
  have haa : (rng h).pow (⟨pmul p k m a k a, pmul_lt h _ _ _⟩) (n / 2) = (rng h).pow ⟨a, hp.al⟩ (2 * (n / 2)) := by
    rw [(rng h).pow_mul]
    congr 1
    simp only [Rng.pow]
    rw [(rng h).one_mul]
    rfl
  rw [haa, show 2 * (n / 2) = n from by omega]
  exact hp.val
theorem PwAt.odd {p k m : Nat} {h : PK p k m} {V r a n : Nat} (hp : PwAt p k m h V r a n) (hn : n % 2 = 1) : PwAt p k m h V (pmul p k m r k a) (pmul p k m a k a) (n / 2) := by
  refine ⟨pmul_lt h _ _ _, pmul_lt h _ _ _, ?_⟩
  have haa : (rng h).pow (⟨pmul p k m a k a, pmul_lt h _ _ _⟩) (n / 2) = (rng h).pow ⟨a, hp.al⟩ (2 * (n / 2)) := by
    rw [(rng h).pow_mul]
    congr 1
    simp only [Rng.pow]
    rw [(rng h).one_mul]
    rfl
  obtain ⟨hr, hal, hv⟩ := hp
  have e : n = 1 + 2 * (n / 2) := by omega
  have e1 : (rng h).pow ⟨a, hal⟩ 1 = ⟨a, hal⟩ := by simp only [Rng.pow]; rw [(rng h).one_mul]
  have e2 : (rng h).pow ⟨a, hal⟩ n = (rng h).mul ⟨a, hal⟩ ((rng h).pow ⟨a, hal⟩ (2 * (n / 2))) := by
    conv => lhs; rw [e, (rng h).pow_add, e1]
  rw [e2, ← (rng h).mul_assoc] at hv
  rw [haa]
  exact hv
theorem PwAt.done {p k m : Nat} {h : PK p k m} {V r a : Nat} (hp : PwAt p k m h V r a 0) : r = V := by
  rw [← hp.val]
  simp only [Rng.pow]
  rw [(rng h).mul_one]
theorem dom_pow {D : FD} {h : PK D.p D.k D.m} (hn : D.Nzd h) (a : El (D.p ^ D.k)) (n : Nat) : (FD.dom hn).pow a n = (rng h).pow a n := by
  induction n with
  | zero => rfl
  | succ n ih => simp only [Dom.pow, Rng.pow]; rw [ih]; rfl
theorem ppow_of {p k m : Nat} (h : PK p k m) (a n : Nat) (ha : a < p ^ k) : ppow h a n = ((rng h).pow ⟨a, ha⟩ n).1 := by
  unfold ppow
  rw [dif_pos ha]
/-- What both programs ask of a generator. -/
def GTest (D : FD) (h : PK D.p D.k D.m) (a r : Nat) : Prop := r ∣ D.p ^ D.k - 1 → Prime r → ppow h a ((D.p ^ D.k - 1) / r) ≠ 1
theorem FD.Ok.test_iff {D : FD} (h : D.Ok) (a : Nat) (ha : a < D.p ^ D.k) (h1 : 1 ≤ a) : (∀ r, 2 ≤ r → r < D.p ^ D.k → GTest D h.pre.pk a r) ↔ (FD.dom h.nzd).Ord ⟨a, ha⟩ (D.p ^ D.k - 1) := by
  have hq := h.pre.pk.one_lt
  have hall := nzl_all h.nzd
  have hlen := nzl_len (D.p ^ D.k)
  have hne : (⟨a, ha⟩ : El (D.p ^ D.k)) ≠ (FD.dom h.nzd).zero := fun e => by
    have : a = 0 := congrArg Subtype.val e
    omega
  constructor
  · intro ht
    have := (FD.dom h.nzd).ord_of_test hall (by omega) hne (fun f hf hd he => by
      rw [hlen] at hd he
      have hle := Nat.le_of_dvd (by omega) hd
      refine ht f hf.1 (by omega) hd hf ?_
      rw [ppow_of _ _ _ ha, ← dom_pow h.nzd, he]
      rfl)
    rw [hlen] at this
    exact this
  · intro ho r h2 hr hd hp he
    refine (FD.dom h.nzd).test_of_ord (by omega) ho h2 hd ?_
    rw [ppow_of _ _ _ ha] at he
    rw [dom_pow h.nzd]
    exact Subtype.ext he
theorem FD.Ok.gen {D : FD} (h : D.Ok) {a : Nat} (h1 : 1 ≤ a) (hg : a ≤ D.g) (ht : ∀ r, 2 ≤ r → r < D.p ^ D.k → GTest D h.pre.pk a r) : a = D.g := by
  have hgq := h.gq
  have ha : a < D.p ^ D.k := by omega
  rcases Nat.lt_or_ge a D.g with hlt | hge
  · exact absurd ((h.test_iff a ha h1).1 ht) (h.least a ha h1 hlt)
  · omega
theorem FD.Ok.not_gen {D : FD} (h : D.Ok) {a : Nat} (hg : a ≤ D.g) {r : Nat} (h2 : 2 ≤ r) (hr : r < D.p ^ D.k) (ht : ¬ GTest D h.pre.pk a r) : a + 1 ≤ D.g := by
  rcases Nat.lt_or_ge a D.g with hlt | hge
  · exact hlt
  · have e : a = D.g := by omega
    subst e
    exact absurd ((h.test_iff D.g h.gq h.g1).2 h.ord r h2 hr) ht
end FFld
end Go.Proofs.YtfhhnfpapgfnmaaGreat

set_option linter.unusedVariables false
set_option linter.unusedSectionVars false
set_option linter.unusedSimpArgs false
namespace Go.Proofs.YtfhhnfpapgfnmaaGreat
namespace FFld
/-! Orders of fields. -/
theorem prime_least {n p : Nat} (hp : 2 ≤ p) (hd : p ∣ n) (h : ∀ i, 2 ≤ i → i < p → ¬ i ∣ n) : Prime p := by
  refine ⟨hp, fun d hdp => ?_⟩
  have hd0 : d ≠ 0 := fun e => by subst e; rw [Nat.zero_dvd] at hdp; omega
  have hle := Nat.le_of_dvd (by omega) hdp
  by_cases h1 : d = 1
  · exact .inl h1
  · right
    rcases Nat.lt_or_ge d p with hlt | hge
    · exact absurd (Nat.dvd_trans hdp hd) (h d (by omega) hlt)
    · omega
theorem prime_pow_eq {p P K : Nat} (hp : Prime p) (hP : Prime P) (h : p ∣ P ^ K) : p = P := by
  induction K with
  | zero => rw [Nat.pow_zero] at h; have := Nat.le_of_dvd (by omega) h; have := hp.1; omega
  | succ K ih =>
    rw [Nat.pow_succ] at h
    rcases hp.dvd_mul h with h1 | h1
    · exact ih h1
    · rcases hP.2 p h1 with h2 | h2
      · have := hp.1; omega
      · exact h2
/-- n times p to the k is a power of a prime only if p divides n, or n is 1. -/
theorem not_power {p P K n k : Nat} (hp : Prime p) (hP : Prime P) (hk : 1 ≤ K) (h : n * p ^ k = P ^ K) (hd : p ∣ P ^ K) (hn : 1 < n) : p ∣ n := by
  have e := prime_pow_eq hp hP hd
  subst e
  rcases Nat.lt_or_ge k K with hlt | hge
  · have e1 : p ^ K = p * p ^ (K - k - 1) * p ^ k := by
      rw [← Nat.pow_succ', ← Nat.pow_add]
      congr 1
      omega
    rw [e1] at h
    have := Nat.eq_of_mul_eq_mul_right (Nat.pow_pos (by have := hp.1; omega)) h
    exact ⟨_, this⟩
  · have h1 : p ^ K ≤ p ^ k := Nat.pow_le_pow_right (by have := hp.1; omega) hge
    have h2 : 2 * p ^ k ≤ n * p ^ k := Nat.mul_le_mul_right _ hn
    have h3 : 0 < p ^ k := Nat.pow_pos (by have := hp.1; omega)
    omega
/-- There is a field of this order. -/
def Fit (q : Int) : Prop := ∃ D : FD, D.Ok ∧ q = D.q
theorem Fit.range {q : Int} (h : Fit q) : 2 ≤ q ∧ q ≤ 65536 := by
  obtain ⟨D, hD, rfl⟩ := h
  have h1 := hD.pre.pk.one_lt
  have h2 := hD.pre.small
  unfold FD.q at *
  omega
theorem Fit.no {p n k : Nat} {q : Int} (hq : q = ((n * p ^ k : Nat) : Int)) (hp : Prime p) (hd : p ∣ n * p ^ k) (hn : 1 < n) (h : ¬ p ∣ n) : ¬ Fit q := by
  rintro ⟨D, hD, e⟩
  have e1 : n * p ^ k = D.p ^ D.k := by unfold FD.q at e; omega
  exact h (not_power hp hD.pre.prime hD.pre.k1 e1 (e1 ▸ hd) hn)
theorem Fit.more {p n : Nat} {P : Nat} (hp : Prime p) (hP : Prime P) (hne : p ≠ P) (h1 : p ∣ n) (h2 : P ∣ n) : ¬ Fit (n : Int) := by
  rintro ⟨D, hD, e⟩
  have e1 : n = D.p ^ D.k := by unfold FD.q at e; omega
  rw [e1] at h1 h2
  exact hne ((prime_pow_eq hp hD.pre.prime h1).trans (prime_pow_eq hP hD.pre.prime h2).symm)
/-- How far the search for a divisor has come. -/
def DvAt_ (p k c d : Nat) (x : Nat) (ok : Bool) : Prop := if ok then (∀ e, 1 ≤ e → e < d → ∀ y, p ^ e ≤ y → y < 2 * p ^ e → pmul p e y 1 (k + 1) c ≠ 0) ∧ ∀ y, p ^ d ≤ y → y < x → pmul p d y 1 (k + 1) c ≠ 0 else ¬ Irr p k c
theorem DvAt_.start (p k c : Nat) : DvAt_ p k c 1 (p ^ 1) true := ⟨fun e h1 h2 => by omega, fun y h1 h2 => by omega⟩
theorem DvAt_.next {p k c d x : Nat} (h : DvAt_ p k c d x true) (hx : pmul p d x 1 (k + 1) c ≠ 0) : DvAt_ p k c d (x + 1) true :=
  ⟨h.1, fun y h1 h2 => by
    by_cases e : y = x
    · subst e; exact hx
    · exact h.2 y h1 (by omega)⟩
theorem DvAt_.fail {p k c d x : Nat} (h1 : 1 ≤ d) (h2 : 2 * d ≤ k) (hx1 : p ^ d ≤ x) (hx2 : x < 2 * p ^ d) (hx : pmul p d x 1 (k + 1) c = 0) (y : Nat) : DvAt_ p k c d y false := fun h => h d h1 h2 x hx1 hx2 hx
theorem DvAt_.row {p k c d : Nat} (h : DvAt_ p k c d (2 * p ^ d) true) : DvAt_ p k c (d + 1) (p ^ (d + 1)) true :=
  ⟨fun e h1 h2 y h3 h4 => by
    by_cases ee : e = d
    · subst ee; exact h.2 y h3 h4
    · exact h.1 e h1 (by omega) y h3 h4, fun y h1 h2 => by omega⟩
theorem DvAt_.done {p k c d x : Nat} (h : DvAt_ p k c d x true) (hd : k < 2 * d) : Irr p k c := fun e h1 h2 y h3 h4 => h.1 e h1 (by omega) y h3 h4
theorem FD.Ok.mod_is {D : FD} (h : D.Ok) (hk : 2 ≤ D.k) {c : Nat} (h1 : D.q ≤ c) (hc : c ≤ D.m) (hi : Irr D.p D.k c) : c = D.m := by
  rcases Nat.lt_or_ge c D.m with hlt | hge
  · exact absurd hi ((h.pre.mod2 hk).2.2.2 c h1 hlt)
  · omega
theorem FD.Ok.mod_not {D : FD} (h : D.Ok) (hk : 2 ≤ D.k) {c : Nat} (hc : c ≤ D.m) (hi : ¬ Irr D.p D.k c) : c + 1 ≤ D.m := by
  rcases Nat.lt_or_ge c D.m with hlt | hge
  · exact hlt
  · have : c = D.m := by omega
    subst this
    exact absurd (h.pre.mod2 hk).2.2.1 hi
end FFld
end Go.Proofs.YtfhhnfpapgfnmaaGreat

set_option linter.unusedVariables false
set_option linter.unusedSectionVars false
set_option linter.unusedSimpArgs false
namespace Go.Proofs.YtfhhnfpapgfnmaaGreat
namespace FFld
/-- The list of the primes that divide n. -/
structure Facs (n : Nat) (l : List Nat) : Prop where
  mem : ∀ f, f ∈ l ↔ Prime f ∧ f ∣ n
  nodup : l.Nodup
  len : l.length ≤ 300
structure PfAt (n0 d n : Nat) (l : List Nat) : Prop where
  n1 : 1 ≤ n
  dv : n ∣ n0
  mem : ∀ f, f ∈ l → Prime f ∧ f ∣ n0 ∧ f < d
  all : ∀ f, Prime f → f ∣ n0 → f ∈ l ∨ f ∣ n
  non : ∀ i, 2 ≤ i → i < d → ¬ i ∣ n
  nodup : l.Nodup
  len : l.length + 1 ≤ d
theorem PfAt.start {n : Nat} (h : 1 ≤ n) : PfAt n 2 n [] := ⟨h, Nat.dvd_refl _, fun f h => by simp at h, fun f _ h => .inr h, fun i h1 h2 => by omega, List.nodup_nil, by simp⟩
theorem PfAt.prime {n0 d n : Nat} {l : List Nat} (h : PfAt n0 d n l) (h2 : 2 ≤ d) (hd : d ∣ n) : Prime d := prime_least h2 hd h.non
/-- Within the division by d, which is in the list. -/
structure PgAt (n0 d n : Nat) (l : List Nat) : Prop where
  n1 : 1 ≤ n
  dv : n ∣ n0
  mem : ∀ f, f ∈ l → Prime f ∧ f ∣ n0 ∧ f < d + 1
  all : ∀ f, Prime f → f ∣ n0 → f ∈ l ∨ f ∣ n
  non : ∀ i, 2 ≤ i → i < d → ¬ i ∣ n
  nodup : l.Nodup
  len : l.length + 1 ≤ d + 1
  has : d ∣ n → d ∈ l
theorem PfAt.put {n0 d n : Nat} {l : List Nat} (h : PfAt n0 d n l) (h2 : 2 ≤ d) (hd : d ∣ n) : PgAt n0 d n (l ++ [d]) := by
  refine ⟨h.n1, h.dv, fun f hf => ?_, fun f hp hf => ?_, h.non, ?_, by have := h.len; simp; omega, fun _ => by simp⟩
  · rcases List.mem_append.1 hf with h1 | h1
    · obtain ⟨a, b, c⟩ := h.mem f h1; exact ⟨a, b, by omega⟩
    · rw [List.mem_singleton.1 h1]; exact ⟨h.prime h2 hd, Nat.dvd_trans hd h.dv, by omega⟩
  · rcases h.all f hp hf with h1 | h1
    · exact .inl (List.mem_append_left _ h1)
    · exact .inr h1
  · rw [List.nodup_append]
    refine ⟨h.nodup, by simp, fun a ha b hb e => ?_⟩
    rw [List.mem_singleton.1 hb] at e
    have := (h.mem a ha).2.2
    omega
theorem PfAt.skip {n0 d n : Nat} {l : List Nat} (h : PfAt n0 d n l) (hd : ¬ d ∣ n) : PgAt n0 d n l :=
  ⟨h.n1, h.dv, fun f hf => by obtain ⟨a, b, c⟩ := h.mem f hf; exact ⟨a, b, by omega⟩, h.all, h.non, h.nodup, by have := h.len; omega, fun h => absurd h hd⟩
theorem PgAt.next {n0 d n : Nat} {l : List Nat} (h : PgAt n0 d n l) (h2 : 2 ≤ d) (hd : d ∣ n) : PgAt n0 d (n / d) l := by
  have e : n = d * (n / d) := (Nat.mul_div_cancel' hd).symm
  have hn := h.n1
  have hdv : n / d ∣ n := ⟨d, by rw [Nat.mul_comm]; exact e⟩
  refine ⟨?_, Nat.dvd_trans hdv h.dv, h.mem, fun f hp hf => ?_, fun i h1 h2 h3 => h.non i h1 h2 (Nat.dvd_trans h3 hdv), h.nodup, h.len, fun _ => h.has hd⟩
  · rcases Nat.eq_zero_or_pos (n / d) with h0 | h0
    · rw [h0] at e; omega
    · exact h0
  · rcases h.all f hp hf with h1 | h1
    · exact .inl h1
    · rw [e] at h1
      rcases hp.dvd_mul h1 with h3 | h3
      · have hpd := (h.mem d (h.has hd)).1
        rcases hpd.2 f h3 with h4 | h4
        · have := hp.1; omega
        · rw [h4]; exact .inl (h.has hd)
      · exact .inr h3
theorem PgAt.done {n0 d n : Nat} {l : List Nat} (h : PgAt n0 d n l) (hd : ¬ d ∣ n) : PfAt n0 (d + 1) n l :=
  ⟨h.n1, h.dv, h.mem, h.all, fun i h1 h2 h3 => by
    by_cases e : i = d
    · subst e; exact hd h3
    · exact h.non i h1 (by omega) h3, h.nodup, h.len⟩
theorem PfAt.last {n0 d n : Nat} {l : List Nat} (h : PfAt n0 d n l) (h2 : 2 ≤ d) (hn : n < d * d) (hn1 : 1 < n) (hl : l.length ≤ 299) : Facs n0 (l ++ [n]) := by
  have hp : Prime n := by rw [← isP_iff, isP_none h2 h.non hn]; exact decide_eq_true hn1
  refine ⟨fun f => ⟨fun hf => ?_, fun hf => ?_⟩, ?_, by simp; omega⟩
  · rcases List.mem_append.1 hf with h1 | h1
    · exact ⟨(h.mem f h1).1, (h.mem f h1).2.1⟩
    · rw [List.mem_singleton.1 h1]; exact ⟨hp, h.dv⟩
  · rcases h.all f hf.1 hf.2 with h1 | h1
    · exact List.mem_append_left _ h1
    · rcases hp.2 f h1 with h3 | h3
      · have := hf.1.1; omega
      · rw [h3]; simp
  · rw [List.nodup_append]
    refine ⟨h.nodup, by simp, fun a ha b hb e => ?_⟩
    rw [List.mem_singleton.1 hb] at e
    obtain ⟨ha1, _, ha3⟩ := h.mem a ha
    subst e
    exact h.non a ha1.1 ha3 (Nat.dvd_refl _)
theorem PfAt.full {n0 d : Nat} {l : List Nat} (h : PfAt n0 d 1 l) (hl : l.length ≤ 300) : Facs n0 l :=
  ⟨fun f => ⟨fun hf => ⟨(h.mem f hf).1, (h.mem f hf).2.1⟩, fun hf => by
    rcases h.all f hf.1 hf.2 with h1 | h1
    · exact h1
    · have := Nat.le_of_dvd (by omega) h1; have := hf.1.1; omega⟩, h.nodup, hl⟩
theorem Facs.one {n p : Nat} (h : Facs n [p]) : Prime p ∧ p ∣ n ∧ ∀ f, Prime f → f ∣ n → f = p := by
  have := (h.mem p).1 (by simp)
  exact ⟨this.1, this.2, fun f h1 h2 => by simpa using (h.mem f).2 ⟨h1, h2⟩⟩
theorem Facs.two {n p q : Nat} {l : List Nat} (h : Facs n (p :: q :: l)) : ¬ Fit (n : Int) := by
  have h1 := (h.mem p).1 (by simp)
  have h2 := (h.mem q).1 (by simp)
  refine Fit.more h1.1 h2.1 (fun e => ?_) h1.2 h2.2
  have := h.nodup
  subst e
  simp at this
theorem Facs.nil {n : Nat} (h : Facs n []) (hn : 2 ≤ n) : False := by
  obtain ⟨f, hf, hd⟩ := exists_prime n hn
  have := (h.mem f).2 ⟨hf, hd⟩
  simp at this
end FFld
end Go.Proofs.YtfhhnfpapgfnmaaGreat

set_option linter.unusedVariables false
set_option linter.unusedSimpArgs false
namespace Go.Proofs.YtfhhnfpapgfnmaaGreat
namespace FFld
/-! Gauss's count of irreducible polynomials, for the degrees up to 40. -/
/-- The value of a list of coefficients. -/
def evz (q : Int) : List Int → Int
  | [] => 0
  | c :: l => c + q * evz q l
def adz : List Int → List Int → List Int
  | [], b => b
  | a, [] => a
  | x :: a, y :: b => (x + y) :: adz a b
theorem evz_adz (q : Int) : ∀ a b, evz q (adz a b) = evz q a + evz q b
  | [], b => by simp [adz, evz]
  | x :: a, [] => by simp [adz, evz]
  | x :: a, y :: b => by
    simp only [adz, evz]
    rw [evz_adz q a b, Int.mul_add]
    omega
theorem evz_zeros (q : Int) (l : List Int) : ∀ n, evz q (List.replicate n 0 ++ l) = q ^ n * evz q l
  | 0 => by simp
  | n + 1 => by
    have e : List.replicate (n + 1) (0 : Int) ++ l = 0 :: (List.replicate n 0 ++ l) := rfl
    rw [e]
    simp only [evz]
    rw [evz_zeros q l n, Int.zero_add, Int.pow_succ, ← Int.mul_assoc, Int.mul_comm q]
theorem evz_cong (q r n m : Int) (h : q = r + n * m) : ∀ l, ∃ k, evz q l = evz r l + n * k
  | [] => ⟨0, by simp [evz]⟩
  | c :: l => by
    obtain ⟨k, hk⟩ := evz_cong q r n m h l
    refine ⟨r * k + m * evz q l, ?_⟩
    simp only [evz]
    have e1 : q * evz q l = r * evz q l + n * m * evz q l := by rw [← Int.add_mul, ← h]
    have e2 : r * evz q l = r * evz r l + r * (n * k) := by rw [hk, Int.mul_add]
    have e3 : n * (r * k + m * evz q l) = r * (n * k) + n * m * evz q l := by rw [Int.mul_add, Int.mul_left_comm, Int.mul_assoc]
    omega
/-- The prime factors. -/
def pls (n : Nat) : List Nat := (List.range (n + 1)).filter fun f => isP f && (n % f == 0)
/-- Moebius's function. -/
def muT (n : Nat) : Int := if (pls n).any (fun f => n % (f * f) == 0) then 0 else if (pls n).length % 2 == 0 then 1 else -1
theorem Facs.perm {n : Nat} {l : List Nat} (h : Facs n l) (hn : 1 ≤ n) : l.Perm (pls n) := by
  refine (List.perm_ext_iff_of_nodup h.nodup (List.nodup_range.filter _)).2 fun f => ?_
  rw [h.mem, List.mem_filter, List.mem_range, Bool.and_eq_true, isP_iff, beq_iff_eq]
  constructor
  · intro ⟨h1, h2⟩
    have := Nat.le_of_dvd (by omega) h2
    exact ⟨by omega, h1, Nat.mod_eq_zero_of_dvd h2⟩
  · intro ⟨_, h1, h2⟩
    exact ⟨h1, Nat.dvd_of_mod_eq_zero h2⟩
theorem mu_zero {n f : Nat} {l : List Nat} (h : Facs n l) (hn : 1 ≤ n) (hf : f ∈ l) (hz : n % (f * f) = 0) : muT n = 0 := by
  unfold muT
  rw [if_pos]
  exact List.any_eq_true.2 ⟨f, (h.perm hn).mem_iff.1 hf, by rw [hz]; rfl⟩
theorem mu_sign {n : Nat} {l : List Nat} (h : Facs n l) (hn : 1 ≤ n) (ha : ∀ f ∈ l, n % (f * f) ≠ 0) : muT n = if l.length % 2 = 0 then 1 else -1 := by
  unfold muT
  rw [if_neg, ← (h.perm hn).length_eq]
  · simp
  · intro hc
    obtain ⟨f, hf, hz⟩ := List.any_eq_true.1 hc
    exact ha f ((h.perm hn).mem_iff.2 hf) (by simpa using hz)
theorem mu_in : ∀ n : Nat, n < 41 → -1 ≤ muT n ∧ muT n ≤ 1 := by decide +kernel
/-- The coefficients of Gauss's sum. -/
def cfz (n : Nat) : List Int := (List.range (n + 1)).map fun d => if d = 0 then 0 else if n % d = 0 then muT (n / d) else 0
/-- The sum of these over the divisors. -/
def sumz (n : Nat) : List Int := (List.range (n + 1)).foldl (fun s d => if d = 0 then s else if n % d = 0 then adz s (cfz d) else s) []
theorem gauss_dvd_dec : ∀ n : Nat, n < 41 → ∀ r : Nat, r < n → evz (r : Int) (cfz n) % (n : Int) = 0 := by decide +kernel
theorem gauss_sum_dec : ∀ n : Nat, n < 41 → 1 ≤ n → sumz n = List.replicate n 0 ++ [1] := by decide +kernel
theorem gauss_dvd {n : Nat} (h1 : 1 ≤ n) (hn : n ≤ 40) (q : Int) : ∃ k, evz q (cfz n) = n * k := by
  have hm : 0 ≤ q % n := Int.emod_nonneg _ (by omega)
  have hl : q % n < n := Int.emod_lt_of_pos _ (by omega)
  obtain ⟨r, hr⟩ : ∃ r : Nat, q % n = r := ⟨(q % n).toNat, by omega⟩
  obtain ⟨k, hk⟩ := evz_cong q (q % n) n (q / n) (by have := Int.emod_add_mul_ediv q n; omega) (cfz n)
  have h0 := gauss_dvd_dec n (by omega) r (by omega)
  rw [hr] at hk
  have h2 := Int.emod_add_mul_ediv (evz (r : Int) (cfz n)) n
  rw [h0] at h2
  exact ⟨evz (r : Int) (cfz n) / n + k, by rw [Int.mul_add]; omega⟩
theorem cfz_len (n : Nat) : (cfz n).length = n + 1 := by simp [cfz]
theorem cfz_get {n d : Nat} (hd : d ≤ n) : (cfz n)[d]?.getD 0 = if d = 0 then 0 else if n % d = 0 then muT (n / d) else 0 := by
  unfold cfz
  rw [List.getElem?_map, List.getElem?_range (by omega)]
  rfl
/-- Horner's rule: the value of the last i coefficients. -/
def hz (l : List Int) (q : Int) : Nat → Int
  | 0 => 0
  | i + 1 => hz l q i * q + l[l.length - 1 - i]?.getD 0
theorem hz_evz (l : List Int) (q : Int) : ∀ i, i ≤ l.length → hz l q i = evz q (l.drop (l.length - i))
  | 0, _ => by simp [hz, evz]
  | i + 1, hi => by
    have e : l.drop (l.length - (i + 1)) = (l[l.length - 1 - i]?.getD 0) :: l.drop (l.length - i) := by
      rw [List.drop_eq_getElem_cons (by omega)]
      congr 1
      · rw [List.getElem?_eq_getElem (by omega)]
        simp only [Option.getD_some]
        congr 1
        omega
      · congr 1
        omega
    rw [e]
    simp only [hz, evz]
    rw [hz_evz l q i (by omega), Int.mul_comm]
    omega
theorem hz_all (l : List Int) (q : Int) : hz l q l.length = evz q l := by
  rw [hz_evz l q _ (Nat.le_refl _), Nat.sub_self, List.drop_zero]
/-- The number of irreducible polynomials. -/
def irrs (q n : Nat) : Int := evz q (cfz n) / n
theorem irrs_mul {q n : Nat} (h1 : 1 ≤ n) (hn : n ≤ 40) : (n : Int) * irrs q n = evz q (cfz n) := by
  obtain ⟨k, hk⟩ := gauss_dvd h1 hn q
  unfold irrs
  rw [hk, Int.mul_ediv_cancel_left _ (by omega)]
/-- The sum of d times the number of degree d over the first i. -/
def dsum (f : Nat → Int) (n : Nat) : Nat → Int
  | 0 => 0
  | i + 1 => if n % (i + 1) = 0 then dsum f n i + (i + 1 : Nat) * f (i + 1) else dsum f n i
theorem sumz_step (q n : Nat) : ∀ i, evz q ((List.range (i + 1)).foldl (fun s d => if d = 0 then s else if n % d = 0 then adz s (cfz d) else s) []) = dsum (fun d => evz q (cfz d) / d) n i ∨ 40 < i := by
  intro i
  by_cases hi : 40 < i
  · exact .inr hi
  · left
    induction i with
    | zero => simp [dsum, evz]
    | succ i ih =>
      rw [List.range_succ, List.foldl_append]
      simp only [List.foldl_cons, List.foldl_nil]
      rw [if_neg (by omega)]
      simp only [dsum]
      by_cases h : n % (i + 1) = 0
      · rw [if_pos h, if_pos h, evz_adz, ih (by omega)]
        have := irrs_mul (q := q) (n := i + 1) (by omega) (by omega)
        unfold irrs at this
        rw [this]
      · rw [if_neg h, if_neg h, ih (by omega)]
/-- Gauss's theorem. -/
theorem gauss (q : Nat) {n : Nat} (h1 : 1 ≤ n) (hn : n ≤ 40) : dsum (irrs q) n n = (q : Int) ^ n := by
  rcases sumz_step q n n with h | h
  · have e : evz (q : Int) (sumz n) = (q : Int) ^ n := by
      rw [gauss_sum_dec n (by omega) h1, evz_zeros]
      simp [evz]
    exact h.symm.trans e
  · omega
/-- The reference's recursion. -/
theorem irrs_ref (q : Nat) {n : Nat} (h1 : 1 ≤ n) (hn : n ≤ 40) : (n : Int) * irrs q n = (q : Int) ^ n - dsum (irrs q) n (n - 1) := by
  have h := gauss q h1 hn
  obtain ⟨m, rfl⟩ : ∃ m, n = m + 1 := ⟨n - 1, by omega⟩
  simp only [dsum] at h
  rw [if_pos (Nat.mod_self _)] at h
  rw [← h, Nat.add_sub_cancel]
  omega
end FFld
end Go.Proofs.YtfhhnfpapgfnmaaGreat
