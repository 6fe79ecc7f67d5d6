/-
  Plain facts on differences modulo v and on developments. No program.
-/
set_option linter.unusedVariables false
set_option linter.unusedSimpArgs false
namespace Go.Proofs.YtalahdkhglagpaaGreatDoor.Dsg
/-- How often each number below v is among rs. -/
def cn (v : Nat) (rs : List Nat) : List Int := (List.range v).map fun r => ((rs.count r : Nat) : Int)
theorem cn_len (v : Nat) (rs : List Nat) : (cn v rs).length = v := by simp [cn]
theorem cn_get {v r : Nat} (rs : List Nat) (h : r < v) : (cn v rs)[r]?.getD 0 = ((rs.count r : Nat) : Int) := by simp [cn, h]
theorem cn_nil (v : Nat) : cn v [] = List.replicate v 0 := by
  apply List.ext_getElem
  · simp [cn]
  · intro i h1 h2
    simp [cn]
theorem cn_succ {v r : Nat} (rs : List Nat) (h : r < v) : cn v (rs ++ [r]) = (cn v rs).set r ((rs.count r : Nat) + 1 : Int) := by
  apply List.ext_getElem
  · simp [cn]
  · intro i h1 h2
    rw [List.getElem_set]
    simp only [cn, List.getElem_map, List.getElem_range, List.count_append]
    by_cases e : r = i
    · subst e
      simp
    · rw [if_neg e]
      simp [List.count_singleton, e]
/-- A difference modulo v. -/
def res (v : Nat) (x y : Int) : Nat := ((x - y) % (v : Int)).toNat
theorem res_int {v : Nat} (hv : 0 < v) (x y : Int) : ((res v x y : Nat) : Int) = (x - y) % (v : Int) := by
  have := Int.emod_nonneg (x - y) (show (v : Int) ≠ 0 by omega)
  unfold res
  omega
theorem res_lt {v : Nat} (hv : 0 < v) (x y : Int) : res v x y < v := by
  have := Int.emod_lt_of_pos (x - y) (show (0 : Int) < (v : Int) by omega)
  have := res_int hv x y
  omega
theorem res_less {v : Nat} {x y : Int} (hx : 0 ≤ x) (hy : y < v) (h : x < y) : ((res v x y : Nat) : Int) = x - y + v := by
  rw [res_int (by omega)]
  rw [← Int.add_emod_right (x - y) (v : Int)]
  exact Int.emod_eq_of_lt (by omega) (by omega)
theorem res_more {v : Nat} {x y : Int} (hy : 0 ≤ y) (hx : x < v) (h : ¬ x < y) : ((res v x y : Nat) : Int) = x - y := by
  rw [res_int (by omega)]
  exact Int.emod_eq_of_lt (by omega) (by omega)
theorem res_zero {v : Nat} {x y : Int} (hx : 0 ≤ x ∧ x < v) (hy : 0 ≤ y ∧ y < v) : res v x y = 0 ↔ x = y := by
  by_cases h : x < y
  · have := res_less hx.1 hy.2 h
    omega
  · have := res_more hy.1 hx.2 h
    omega
/-- The differences of all pairs up to the place (i, k). -/
def prs (v : Nat) (xs : List Int) (i k : Nat) : List Nat := (xs.take i).flatMap (fun x => xs.map (res v x)) ++ (xs.take k).map (res v (xs[i]?.getD 0))
theorem prs_zero (v : Nat) (xs : List Int) : prs v xs 0 0 = [] := by simp [prs]
theorem prs_in {v : Nat} {xs : List Int} {i k : Nat} (hk : k < xs.length) : prs v xs i (k + 1) = prs v xs i k ++ [res v (xs[i]?.getD 0) (xs[k]?.getD 0)] := by
  unfold prs
  rw [List.take_add_one, List.map_append, List.getElem?_eq_getElem hk]
  simp
theorem prs_out {v : Nat} {xs : List Int} {i : Nat} (hi : i < xs.length) : prs v xs i xs.length = prs v xs (i + 1) 0 := by
  unfold prs
  rw [List.take_add_one, List.flatMap_append, List.getElem?_eq_getElem hi]
  simp
/-- The numbers are from 0 to v - 1, each once. -/
def difB (v : Int) (xs : List Int) : Bool := xs.all (fun x => decide (0 ≤ x) && decide (x < v)) && decide xs.Nodup
theorem difB_iff {v : Int} {xs : List Int} : difB v xs = true ↔ (∀ x ∈ xs, 0 ≤ x ∧ x < v) ∧ xs.Nodup := by
  unfold difB
  simp
/-- Whether all differences but 0 occur equally often. -/
def alike (v : Nat) (xs : List Int) : Prop := ∀ r, 1 ≤ r → r < v → (prs v xs xs.length 0).count r = (prs v xs xs.length 0).count 1
open Classical in
/-- What IsDifference returns. -/
noncomputable def dfF (v : Int) (xs : List Int) : Int × Bool :=
  if 3 ≤ v ∧ v ≤ 10000 ∧ (xs.length : Int) < v ∧ difB v xs = true ∧ alike v.toNat xs ∧ (prs v.toNat xs xs.length 0).count 1 ≠ 0 then ((((prs v.toNat xs xs.length 0).count 1 : Nat) : Int), true) else (0, false)
theorem dfF_no {v : Int} {xs : List Int} (h : ¬ (3 ≤ v ∧ v ≤ 10000 ∧ (xs.length : Int) < v ∧ difB v xs = true ∧ alike v.toNat xs ∧ (prs v.toNat xs xs.length 0).count 1 ≠ 0)) : dfF v xs = (0, false) := if_neg h
theorem dfF_yes {v : Int} {xs : List Int} (h : 3 ≤ v ∧ v ≤ 10000 ∧ (xs.length : Int) < v ∧ difB v xs = true ∧ alike v.toNat xs ∧ (prs v.toNat xs xs.length 0).count 1 ≠ 0) : dfF v xs = ((((prs v.toNat xs xs.length 0).count 1 : Nat) : Int), true) := if_pos h
theorem prs_end_nil (v : Nat) (xs : List Int) : prs v xs xs.length 0 = xs.flatMap fun x => xs.map (res v x) := by simp [prs]
theorem short_no {v : Int} {xs : List Int} (h : xs.length < 2) : dfF v xs = (0, false) := by
  apply dfF_no
  rintro ⟨h3, _, _, _, _, h6⟩
  apply h6
  rw [prs_end_nil]
  match xs, h with
  | [], _ => simp
  | [x], _ => simp [res]
theorem mem_prs {v : Nat} {xs : List Int} {x y : Int} (hx : x ∈ xs) (hy : y ∈ xs) : res v x y ∈ prs v xs xs.length 0 := by
  rw [prs_end_nil, List.mem_flatMap]
  exact ⟨x, hx, List.mem_map.2 ⟨y, hy, rfl⟩⟩
/-- Two different numbers have a difference that occurs. -/
theorem some_count {v : Nat} {xs : List Int} (hv : 0 < v) (h2 : 2 ≤ xs.length) (hd : difB v xs = true) (ha : alike v xs) : (prs v xs xs.length 0).count 1 ≠ 0 := by
  obtain ⟨hr, hn⟩ := difB_iff.1 hd
  match xs, h2 with
  | x :: y :: t, _ =>
    have hxy : x ≠ y := by
      intro e
      subst e
      simp at hn
    have h0 : res v x y ≠ 0 := fun e => hxy ((res_zero (hr x (by simp)) (hr y (by simp))).1 e)
    have hm := mem_prs (v := v) (xs := x :: y :: t) (x := x) (y := y) (by simp) (by simp)
    have hc := List.count_pos_iff.2 hm
    have := ha _ (by omega) (res_lt hv x y)
    omega
/-- Differences without 0: those of different places. -/
def nz (rs : List Nat) : List Nat := rs.filter fun r => r != 0
theorem nz_add (rs : List Nat) (r : Nat) : nz (rs ++ [r]) = if r = 0 then nz rs else nz rs ++ [r] := by
  unfold nz
  rw [List.filter_append]
  by_cases h : r = 0
  · simp [h]
  · simp [h]
theorem nz_count {rs : List Nat} {r : Nat} (h : r ≠ 0) : (nz rs).count r = rs.count r := by
  unfold nz
  rw [List.count_filter]
  simpa using h
theorem nd_get {xs : List Int} (h : xs.Nodup) {i k : Nat} (hi : i < xs.length) (hk : k < xs.length) : xs[i]?.getD 0 = xs[k]?.getD 0 ↔ i = k := by
  rw [List.getElem?_eq_getElem hi, List.getElem?_eq_getElem hk]
  simp only [Option.getD_some]
  constructor
  · intro e
    have hp := List.pairwise_iff_getElem.1 h
    rcases Nat.lt_trichotomy i k with h1 | h1 | h1
    · exact absurd e (hp i k hi hk h1)
    · exact h1
    · exact absurd e.symm (hp k i hk hi h1)
  · intro e
    subst e
    rfl
theorem take_nodup {xs : List Int} {i : Nat} (hi : i < xs.length) : (xs.take (i + 1)).Nodup ↔ (xs.take i).Nodup ∧ xs[i]?.getD 0 ∉ xs.take i := by
  rw [List.take_add_one, List.getElem?_eq_getElem hi]
  simp only [Option.toList_some, Option.getD_some]
  rw [List.nodup_append]
  constructor
  · rintro ⟨h1, _, h2⟩
    exact ⟨h1, fun hm => h2 _ hm _ (by simp) rfl⟩
  · rintro ⟨h1, h2⟩
    exact ⟨h1, by simp, fun a ha b hb e => h2 (by rw [List.mem_singleton] at hb; rw [← hb, ← e]; exact ha)⟩
theorem count_prs_le (v : Nat) (xs : List Int) (i k r : Nat) : (prs v xs i k).count r ≤ i * xs.length + k := by
  refine Nat.le_trans List.count_le_length ?_
  have hf : ∀ l : List Int, (l.flatMap fun x => xs.map (res v x)).length = l.length * xs.length := by
    intro l
    induction l with
    | nil => simp
    | cons a t ih => simp [ih, Nat.succ_mul, Nat.add_comm]
  unfold prs
  rw [List.length_append, hf, List.length_map, List.length_take, List.length_take]
  exact Nat.add_le_add (Nat.mul_le_mul_right _ (Nat.min_le_left _ _)) (Nat.min_le_left _ _)
/-- Two rising lists with the same elements are the same. -/
theorem rising_eq : ∀ {l m : List Int}, l.Pairwise (· < ·) → m.Pairwise (· < ·) → (∀ x, x ∈ l ↔ x ∈ m) → l = m
  | [], [], _, _, _ => rfl
  | [], b :: m, _, _, h => absurd ((h b).2 (by simp)) (by simp)
  | a :: l, [], _, _, h => absurd ((h a).1 (by simp)) (by simp)
  | a :: l, b :: m, hl, hm, h => by
    obtain ⟨hl1, hl2⟩ := List.pairwise_cons.1 hl
    obtain ⟨hm1, hm2⟩ := List.pairwise_cons.1 hm
    have e : a = b := by
      rcases List.mem_cons.1 ((h a).1 (by simp)) with h1 | h1
      · exact h1
      · rcases List.mem_cons.1 ((h b).2 (by simp)) with h2 | h2
        · exact h2.symm
        · have := hl1 b h2
          have := hm1 a h1
          omega
    subst e
    refine congrArg _ (rising_eq hl2 hm2 fun x => ⟨fun hx => ?_, fun hx => ?_⟩)
    · rcases List.mem_cons.1 ((h x).1 (List.mem_cons_of_mem _ hx)) with h1 | h1
      · have := hl1 x hx; omega
      · exact h1
    · rcases List.mem_cons.1 ((h x).2 (List.mem_cons_of_mem _ hx)) with h1 | h1
      · have := hm1 x hx; omega
      · exact h1
theorem rising_of {l : List Int} (h : l.Pairwise (· ≤ ·)) (hn : l.Nodup) : l.Pairwise (· < ·) := by
  have := List.pairwise_and_iff.2 ⟨h, hn⟩
  exact this.imp fun ⟨h1, h2⟩ => by omega
abbrev srt (l : List Int) : List Int := l.mergeSort fun x y => decide (x ≤ y)
theorem srt_perm (l : List Int) : (srt l).Perm l := List.mergeSort_perm _ _
theorem srt_le (l : List Int) : (srt l).Pairwise (· ≤ ·) := by
  have := List.pairwise_mergeSort (le := fun x y : Int => decide (x ≤ y)) (fun a b c h1 h2 => by simp at *; omega) (fun a b => by simp; omega) l
  exact this.imp fun h => by simpa using h
/-- One line of a development, in order. -/
def dvL (v : Nat) (xs : List Int) (i : Nat) : List Int := ((List.range v).map Int.ofNat).filter fun x => decide ((x - i + v) % (v : Int) ∈ xs)
theorem shift_mem {v : Nat} {xs : List Int} (hr : ∀ x ∈ xs, 0 ≤ x ∧ x < (v : Int)) {i : Nat} (hi : i < v) (z : Int) :
    z ∈ xs.map (fun x => (x + i) % (v : Int)) ↔ (0 ≤ z ∧ z < v) ∧ (z - i + v) % (v : Int) ∈ xs := by
  have hv : (0 : Int) < v := by omega
  rw [List.mem_map]
  constructor
  · rintro ⟨x, hx, rfl⟩
    obtain ⟨h0, h1⟩ := hr x hx
    refine ⟨⟨Int.emod_nonneg _ (by omega), Int.emod_lt_of_pos _ hv⟩, ?_⟩
    have e : ((x + i) % (v : Int) - i + v) % (v : Int) = x := by
      by_cases h : x + i < v
      · rw [Int.emod_eq_of_lt (by omega) h, show x + i - i + (v : Int) = x + v by omega, Int.add_emod_right, Int.emod_eq_of_lt h0 h1]
      · have e1 : (x + (i : Int)) % (v : Int) = x + i - v := by
          conv => lhs; rw [show x + (i : Int) = (x + i - v) + v by omega, Int.add_emod_right]
          exact Int.emod_eq_of_lt (by omega) (by omega)
        rw [e1, show x + i - v - i + (v : Int) = x by omega, Int.emod_eq_of_lt h0 h1]
    rw [e]
    exact hx
  · rintro ⟨⟨h0, h1⟩, h⟩
    refine ⟨_, h, ?_⟩
    by_cases hz : z < i
    · rw [Int.emod_eq_of_lt (a := z - i + v) (by omega) (by omega), show z - i + v + (i : Int) = z + v by omega, Int.add_emod_right, Int.emod_eq_of_lt h0 h1]
    · rw [Int.add_emod_right, Int.emod_eq_of_lt (a := z - i) (by omega) (by omega), show z - i + (i : Int) = z by omega, Int.emod_eq_of_lt h0 h1]
theorem shift_nodup {v : Nat} {xs : List Int} (hr : ∀ x ∈ xs, 0 ≤ x ∧ x < (v : Int)) (hn : xs.Nodup) {i : Nat} (hi : i < v) : (xs.map (fun x => (x + i) % (v : Int))).Nodup := by
  rw [List.nodup_iff_pairwise_ne, List.pairwise_map]
  refine (List.Pairwise.imp_of_mem (fun {a b} ha hb hab e => hab ?_) hn)
  obtain ⟨a0, a1⟩ := hr a ha
  obtain ⟨b0, b1⟩ := hr b hb
  have cs : ∀ x : Int, 0 ≤ x → x < v → (x + i) % (v : Int) = if x + i < v then x + i else x + i - v := by
    intro x h0 h1
    by_cases h : x + (i : Int) < v
    · rw [if_pos h, Int.emod_eq_of_lt (by omega) h]
    · rw [if_neg h]
      conv => lhs; rw [show x + (i : Int) = (x + i - v) + v by omega, Int.add_emod_right]
      exact Int.emod_eq_of_lt (by omega) (by omega)
  rw [cs a a0 a1, cs b b0 b1] at e
  split at e <;> split at e <;> omega
theorem range_rising (v : Nat) : ((List.range v).map Int.ofNat).Pairwise (· < ·) := by
  rw [List.pairwise_map]
  exact List.pairwise_lt_range.imp fun h => by
    show Int.ofNat _ < Int.ofNat _
    simpa using h
theorem mem_range_int {v : Nat} {x : Int} : x ∈ (List.range v).map Int.ofNat ↔ 0 ≤ x ∧ x < v := by
  rw [List.mem_map]
  constructor
  · rintro ⟨a, ha, rfl⟩
    have := List.mem_range.1 ha
    constructor
    · exact Int.natCast_nonneg _
    · show ((a : Nat) : Int) < v; omega
  · rintro ⟨h0, h1⟩
    exact ⟨x.toNat, List.mem_range.2 (by omega), by show ((x.toNat : Nat) : Int) = x; omega⟩
theorem srt_shift {v : Nat} {xs : List Int} (hd : difB v xs = true) {i : Nat} (hi : i < v) : srt (xs.map (fun x => (x + i) % (v : Int))) = dvL v xs i := by
  obtain ⟨hr, hn⟩ := difB_iff.1 hd
  refine rising_eq (rising_of (srt_le _) ((srt_perm _).nodup_iff.2 (shift_nodup hr hn hi))) ((range_rising v).filter _) fun z => ?_
  rw [(srt_perm _).mem_iff, shift_mem hr hi, dvL, List.mem_filter, mem_range_int]
  simp
end Go.Proofs.YtalahdkhglagpaaGreatDoor.Dsg
