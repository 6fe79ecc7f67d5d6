/-
  Texts of the proof, merged by program: Dg Sl Row Mine.
-/
import Derived.WalkKit
import Derived.WalkSpells
import Derived.WalkLawsBesides
import Derived.Lib.Hide
/-! Plain facts on numbers as lists of digits, the lowest one first. No program. -/
set_option linter.unusedVariables false
set_option linter.unusedSimpArgs false
namespace Go.Proofs.Ytfhhnfpapgfnmaa.Dg

/-- The number whose digits to the base B are xs, the lowest first. -/
def val (B : Int) : List Int → Int
  | [] => 0
  | x :: xs => x + B * val B xs

/-- Every digit is one to the base B. -/
def Wf (B : Int) (xs : List Int) : Prop := ∀ x ∈ xs, 0 ≤ x ∧ x < B

/-- The last digit is not 0. -/
def Nz (xs : List Int) : Prop := ∀ h : xs ≠ [], xs.getLast h ≠ 0

theorem Wf.nil (B : Int) : Wf B [] := fun _ h => by cases h
theorem Wf.cons {B x : Int} {xs : List Int} (h : Wf B (x :: xs)) : 0 ≤ x ∧ x < B ∧ Wf B xs :=
  ⟨(h x (by simp)).1, (h x (by simp)).2, fun y hy => h y (by simp [hy])⟩
theorem Wf.mk {B x : Int} {xs : List Int} (h0 : 0 ≤ x) (h1 : x < B) (h : Wf B xs) : Wf B (x :: xs) := by
  intro y hy
  rcases List.mem_cons.1 hy with rfl | hy
  · exact ⟨h0, h1⟩
  · exact h y hy
theorem Wf.append {B : Int} {xs ys : List Int} (h : Wf B xs) (k : Wf B ys) : Wf B (xs ++ ys) := by
  intro y hy
  rcases List.mem_append.1 hy with hy | hy
  · exact h y hy
  · exact k y hy
theorem Wf.left {B : Int} {xs ys : List Int} (h : Wf B (xs ++ ys)) : Wf B xs := fun y hy => h y (by simp [hy])
theorem Wf.right {B : Int} {xs ys : List Int} (h : Wf B (xs ++ ys)) : Wf B ys := fun y hy => h y (by simp [hy])
theorem Wf.take {B : Int} {xs : List Int} (h : Wf B xs) (n : Nat) : Wf B (xs.take n) := fun y hy => h y (List.mem_of_mem_take hy)
theorem Wf.drop {B : Int} {xs : List Int} (h : Wf B xs) (n : Nat) : Wf B (xs.drop n) := fun y hy => h y (List.mem_of_mem_drop hy)
theorem Wf.one {B x : Int} (h0 : 0 ≤ x) (h1 : x < B) : Wf B [x] := Wf.mk h0 h1 (Wf.nil B)
theorem Wf.zeros {B : Int} (hB : 0 < B) (n : Nat) : Wf B (List.replicate n 0) := by
  intro y hy
  have := List.eq_of_mem_replicate hy
  omega
theorem Wf.get {B : Int} {xs : List Int} (h : Wf B xs) (i : Nat) (hi : i < xs.length) : 0 ≤ xs[i] ∧ xs[i] < B := h _ (List.getElem_mem hi)
theorem Wf.getD {B : Int} {xs : List Int} (hB : 0 < B) (h : Wf B xs) (i : Nat) : 0 ≤ xs[i]?.getD 0 ∧ xs[i]?.getD 0 < B := by
  by_cases hi : i < xs.length
  · simpa [hi] using h.get i hi
  · simp [hi, hB]
theorem Wf.set {B x : Int} {xs : List Int} (h : Wf B xs) (i : Nat) (h0 : 0 ≤ x) (h1 : x < B) : Wf B (xs.set i x) := by
  intro y hy
  rcases List.mem_or_eq_of_mem_set hy with hy | rfl
  · exact h y hy
  · exact ⟨h0, h1⟩

theorem val_nil (B : Int) : val B [] = 0 := rfl
theorem val_cons (B x : Int) (xs : List Int) : val B (x :: xs) = x + B * val B xs := rfl
theorem val_one (B x : Int) : val B [x] = x := by simp [val]

theorem val_append (B : Int) (xs ys : List Int) : val B (xs ++ ys) = val B xs + B ^ xs.length * val B ys := by
  induction xs with
  | nil => simp [val]
  | cons x xs ih =>
    simp only [List.cons_append, val, ih, List.length_cons, Int.pow_succ, Int.mul_add, Int.mul_assoc, Int.add_assoc, Int.mul_left_comm B]

theorem val_zeros (B : Int) (n : Nat) : val B (List.replicate n 0) = 0 := by
  induction n with
  | zero => rfl
  | succ n ih => simp [List.replicate_succ, val, ih]

theorem val_snoc_zeros (B : Int) (xs : List Int) (n : Nat) : val B (xs ++ List.replicate n 0) = val B xs := by simp [val_append, val_zeros]

theorem pow_pos {B : Int} (hB : 0 < B) (n : Nat) : 0 < B ^ n := by
  induction n with
  | zero => simp
  | succ n ih => rw [Int.pow_succ]; exact Int.mul_pos ih hB

theorem val_nonneg {B : Int} (hB : 0 < B) {xs : List Int} (h : Wf B xs) : 0 ≤ val B xs := by
  induction xs with
  | nil => simp [val]
  | cons x xs ih =>
    obtain ⟨h0, _, hw⟩ := h.cons
    have := Int.mul_nonneg (show 0 ≤ B by omega) (ih hw)
    simp only [val]
    omega

theorem val_lt {B : Int} (hB : 0 < B) {xs : List Int} (h : Wf B xs) : val B xs < B ^ xs.length := by
  induction xs with
  | nil => simp [val]
  | cons x xs ih =>
    obtain ⟨_, h1, hw⟩ := h.cons
    have k := ih hw
    have k2 : B * (val B xs + 1) ≤ B * B ^ xs.length := Int.mul_le_mul_of_nonneg_left (by omega) (by omega)
    simp only [val, List.length_cons, Int.pow_succ, Int.mul_comm _ B]
    rw [Int.mul_add] at k2
    omega

theorem pow_mono {B : Int} (hB : 0 < B) {m n : Nat} (h : m ≤ n) : B ^ m ≤ B ^ n := by
  obtain ⟨k, rfl⟩ := Nat.exists_eq_add_of_le h
  rw [Int.pow_add]
  have h1 := pow_pos hB m
  have h2 := pow_pos hB k
  have := Int.mul_le_mul_of_nonneg_left (show 1 ≤ B ^ k by omega) (show 0 ≤ B ^ m by omega)
  omega

theorem val_ge {B : Int} (hB : 0 < B) {xs : List Int} (h : Wf B xs) (hn : Nz xs) (hne : xs ≠ []) : B ^ (xs.length - 1) ≤ val B xs := by
  have e := List.dropLast_concat_getLast hne
  have hl : 0 ≤ xs.getLast hne := (h _ (List.getLast_mem hne)).1
  have hz := hn hne
  have hw : Wf B xs.dropLast := fun y hy => h y (List.dropLast_subset _ hy)
  have h0 := val_nonneg hB hw
  rw [← e, val_append, val_one]
  have hp := pow_pos hB xs.dropLast.length
  have := Int.mul_le_mul_of_nonneg_left (show 1 ≤ xs.getLast hne by omega) (show 0 ≤ B ^ xs.dropLast.length by omega)
  simp only [List.length_dropLast, List.length_append, List.length_singleton] at *
  have el : xs.length - 1 + 1 - 1 = xs.length - 1 := by omega
  rw [el]
  omega

theorem Nz.nil : Nz [] := fun h => absurd rfl h

theorem val_zero_iff {B : Int} (hB : 0 < B) {xs : List Int} (h : Wf B xs) (hn : Nz xs) : val B xs = 0 ↔ xs = [] := by
  constructor
  · intro hv
    apply Classical.byContradiction
    intro hne
    have := val_ge hB h hn hne
    have := pow_pos hB (xs.length - 1)
    omega
  · rintro rfl; rfl

theorem val_pos {B : Int} (hB : 0 < B) {xs : List Int} (h : Wf B xs) (hn : Nz xs) (hne : xs ≠ []) : 0 < val B xs := by
  have := val_ge hB h hn hne
  have := pow_pos hB (xs.length - 1)
  omega

/-- Lists of one length: the number tells the list. -/
theorem val_inj_len {B : Int} (hB : 0 < B) {xs ys : List Int} (hx : Wf B xs) (hy : Wf B ys) (hl : xs.length = ys.length) (h : val B xs = val B ys) : xs = ys := by
  induction xs generalizing ys with
  | nil => cases ys with | nil => rfl | cons => simp at hl
  | cons x xs ih =>
    cases ys with
    | nil => simp at hl
    | cons y ys =>
      obtain ⟨a0, a1, aw⟩ := hx.cons
      obtain ⟨b0, b1, bw⟩ := hy.cons
      simp only [val] at h
      have e : x = y := by
        have h1 : (x + B * val B xs) % B = x := by rw [Int.add_mul_emod_self_left, Int.emod_eq_of_lt a0 a1]
        have h2 : (y + B * val B ys) % B = y := by rw [Int.add_mul_emod_self_left, Int.emod_eq_of_lt b0 b1]
        rw [← h1, ← h2, h]
      subst e
      have h3 : B * val B xs = B * val B ys := by omega
      have h4 := Int.eq_of_mul_eq_mul_left (by omega) h3
      rw [ih aw bw (by simpa using hl) h4]

theorem len_le_of_val_lt {B : Int} (hB : 1 < B) {xs : List Int} (h : Wf B xs) (hn : Nz xs) {n : Nat} (hv : val B xs < B ^ n) : xs.length ≤ n := by
  apply Classical.byContradiction
  intro hc
  have hne : xs ≠ [] := by rintro rfl; simp at hc
  have h1 := val_ge (by omega) h hn hne
  have h2 : B ^ n ≤ B ^ (xs.length - 1) := pow_mono (by omega) (by omega)
  omega

/-- Normal lists: the number tells the list. -/
theorem val_inj {B : Int} (hB : 1 < B) {xs ys : List Int} (hx : Wf B xs) (hy : Wf B ys) (nx : Nz xs) (ny : Nz ys) (h : val B xs = val B ys) : xs = ys := by
  have h1 := len_le_of_val_lt hB hx nx (n := ys.length) (by rw [h]; exact val_lt (by omega) hy)
  have h2 := len_le_of_val_lt hB hy ny (n := xs.length) (by rw [← h]; exact val_lt (by omega) hx)
  exact val_inj_len (by omega) hx hy (by omega) h

theorem val_lt_of_len {B : Int} (hB : 1 < B) {xs ys : List Int} (hx : Wf B xs) (hy : Wf B ys) (ny : Nz ys) (h : xs.length < ys.length) : val B xs < val B ys := by
  have hne : ys ≠ [] := by rintro rfl; simp at h
  have h1 := val_ge (by omega) hy ny hne
  have h2 := val_lt (show 0 < B by omega) hx
  have h3 : B ^ xs.length ≤ B ^ (ys.length - 1) := pow_mono (by omega) (by omega)
  omega

theorem take_succ (xs : List Int) (i : Nat) (hi : i < xs.length) : xs.take (i + 1) = xs.take i ++ [xs[i]] := by
  rw [List.take_succ_eq_append_getElem hi]
theorem val_take_succ (B : Int) (xs : List Int) (i : Nat) (hi : i < xs.length) : val B (xs.take (i + 1)) = val B (xs.take i) + B ^ i * xs[i] := by
  rw [take_succ xs i hi, val_append, val_one]
  simp [Nat.min_eq_left (Nat.le_of_lt hi)]
theorem val_take_succD (B : Int) (xs : List Int) (i : Nat) : val B (xs.take (i + 1)) = val B (xs.take i) + B ^ i * xs[i]?.getD 0 := by
  by_cases hi : i < xs.length
  · rw [val_take_succ B xs i hi]; simp [hi]
  · rw [List.take_of_length_le (by omega), List.take_of_length_le (by omega)]; simp [hi]
theorem val_take_all (B : Int) (xs : List Int) (i : Nat) (h : xs.length ≤ i) : val B (xs.take i) = val B xs := by rw [List.take_of_length_le h]
theorem take_set_succ (zs : List Int) (k : Nat) (s : Int) (hk : k < zs.length) : (zs.set k s).take (k + 1) = zs.take k ++ [s] := by
  rw [List.take_succ_eq_append_getElem (by simpa using hk)]
  simp only [List.take_set, List.getElem_set_self]
  rw [List.set_eq_of_length_le (by simp; omega)]
theorem set_last (zs : List Int) (k : Nat) (s : Int) (hk : zs.length = k + 1) : zs.set k s = zs.take k ++ [s] := by
  rw [← take_set_succ zs k s (by omega), List.take_of_length_le (by simp; omega)]
theorem val_split (B : Int) (xs : List Int) (i : Nat) (h : i ≤ xs.length) : val B xs = val B (xs.take i) + B ^ i * val B (xs.drop i) := by
  conv => lhs; rw [← List.take_append_drop i xs, val_append]
  simp [Nat.min_eq_left h]

/-- Alike from k + 1 on, less at k: less. -/
theorem val_lt_at {B : Int} (hB : 0 < B) {xs ys : List Int} (hx : Wf B xs) (hy : Wf B ys) (hl : xs.length = ys.length) {k : Nat} (hk : k < xs.length)
    (hd : xs.drop (k + 1) = ys.drop (k + 1)) (h : xs[k]?.getD 0 < ys[k]?.getD 0) : val B xs < val B ys := by
  rw [val_split B xs (k + 1) (by omega), val_split B ys (k + 1) (by omega), hd, val_take_succD, val_take_succD]
  have h1 := val_lt hB (hx.take k)
  have h2 := val_nonneg hB (hy.take k)
  have hp := pow_pos hB k
  have hlen : (xs.take k).length = k := by simp; omega
  rw [hlen] at h1
  have := Int.mul_le_mul_of_nonneg_left (show xs[k]?.getD 0 + 1 ≤ ys[k]?.getD 0 from h) (Int.le_of_lt hp)
  rw [Int.mul_add] at this
  omega
theorem drop_eq_at {xs ys : List Int} (hl : xs.length = ys.length) {k : Nat} (hd : xs.drop (k + 1) = ys.drop (k + 1)) (h : xs[k]?.getD 0 = ys[k]?.getD 0) : xs.drop k = ys.drop k := by
  by_cases hk : k < xs.length
  · have hk' : k < ys.length := by omega
    rw [List.drop_eq_getElem_cons hk, List.drop_eq_getElem_cons hk', hd]
    simp [hk, hk'] at h
    rw [h]
  · rw [List.drop_of_length_le (by omega), List.drop_of_length_le (by omega)]
/-- The sign of x - y. -/
def sg (x y : Int) : Int := if x < y then -1 else if y < x then 1 else 0
theorem sg_lt {x y : Int} (h : x < y) : sg x y = -1 := by simp [sg, h]
theorem sg_gt {x y : Int} (h : y < x) : sg x y = 1 := by unfold sg; rw [if_neg (by omega), if_pos h]
theorem sg_eq (x : Int) : sg x x = 0 := by simp [sg]

/-- Without the zeros at the end. -/
def cut : List Int → List Int
  | [] => []
  | x :: xs => if x = 0 ∧ cut xs = [] then [] else x :: cut xs

theorem val_cut (B : Int) (xs : List Int) : val B (cut xs) = val B xs := by
  induction xs with
  | nil => rfl
  | cons x xs ih =>
    unfold cut
    split
    · rename_i h; simp only [val]; rw [← ih, h.2, h.1]; simp [val]
    · simp only [val, ih]
theorem Wf.cut {B : Int} {xs : List Int} (h : Wf B xs) : Wf B (Dg.cut xs) := by
  induction xs with
  | nil => exact h
  | cons x xs ih =>
    obtain ⟨h0, h1, hw⟩ := h.cons
    unfold Dg.cut
    split
    · exact Wf.nil B
    · exact Wf.mk h0 h1 (ih hw)
theorem nz_cut (xs : List Int) : Nz (cut xs) := by
  induction xs with
  | nil => exact Nz.nil
  | cons x xs ih =>
    unfold cut
    split
    · exact Nz.nil
    · rename_i h
      intro hne
      by_cases hc : cut xs = []
      · simp only [hc, List.getLast_singleton]
        exact fun hx => h ⟨hx, hc⟩
      · rw [List.getLast_cons hc]; exact ih hc
theorem cut_len (xs : List Int) : (cut xs).length ≤ xs.length := by
  induction xs with
  | nil => simp [cut]
  | cons x xs ih => unfold cut; split <;> simp; omega

/-- What is cut away is zeros: the cut at n is right if what lies behind is 0 and what lies ahead ends in no 0. -/
theorem cut_eq (xs : List Int) (n : Nat) (hz : ∀ i, n ≤ i → xs[i]?.getD 0 = 0) (hn : n = 0 ∨ xs[n - 1]?.getD 0 ≠ 0) : cut xs = xs.take n := by
  induction xs generalizing n with
  | nil => simp [cut]
  | cons x xs ih =>
    cases n with
    | zero =>
      have hx : x = 0 := by simpa using hz 0 (by omega)
      have := ih 0 (fun i _ => by simpa using hz (i + 1) (by omega)) (Or.inl rfl)
      simp [cut, hx, this]
    | succ n =>
      have h1 := ih n (fun i hi => by simpa using hz (i + 1) (by omega)) (by
        rcases Nat.eq_zero_or_pos n with h | h
        · exact Or.inl h
        · right
          rcases hn with hn | hn
          · omega
          · obtain ⟨m, rfl⟩ : ∃ m, n = m + 1 := ⟨n - 1, by omega⟩
            simpa using hn)
      unfold cut
      rw [h1]
      split
      · rename_i h
        exfalso
        obtain ⟨hx, ht⟩ := h
        rcases hn with hn | hn
        · omega
        · rcases Nat.eq_zero_or_pos n with h0 | h0
          · subst h0; simp at hn; exact hn hx
          · obtain ⟨m, rfl⟩ : ∃ m, n = m + 1 := ⟨n - 1, by omega⟩
            have : xs = [] := by
              cases xs with
              | nil => rfl
              | cons => simp at ht
            subst this
            simp at hn
      · simp
theorem cut_of_nz {xs : List Int} (h : Nz xs) : cut xs = xs := by
  rw [cut_eq xs xs.length (fun i hi => by simp [hi]) (by
    cases xs with
    | nil => simp
    | cons x xs =>
      right
      have := h (by simp)
      rw [List.getLast_eq_getElem] at this
      simpa using this)]
  simp

theorem val_of_zeros {B : Int} {xs : List Int} (h : ∀ i : Nat, xs[i]?.getD 0 = 0) : val B xs = 0 := by
  induction xs with
  | nil => rfl
  | cons x xs ih =>
    have h0 : x = 0 := by simpa using h 0
    rw [val, ih (fun i => by simpa using h (i + 1)), h0]
    simp
theorem val_set_zeros {B c : Int} {xs : List Int} (h : ∀ i : Nat, xs[i]?.getD 0 = 0) (hl : 0 < xs.length) : val B (xs.set 0 c) = c := by
  cases xs with
  | nil => simp at hl
  | cons x xs =>
    have := val_of_zeros (B := B) (xs := xs) (fun i => by simpa using h (i + 1))
    simp [val, this]
theorem three (T : List Int) (k n : Nat) : T.take k ++ (T.drop k).take n ++ T.drop (k + n) = T := by
  rw [List.append_assoc, ← List.drop_drop, List.take_append_drop, List.take_append_drop]
theorem mul_bound {x y B : Int} (hx : 0 ≤ x) (hx1 : x < B) (hy : 0 ≤ y) (hy1 : y < B) : x * y ≤ (B - 1) * (B - 1) :=
  Int.mul_le_mul (by omega) (by omega) hy (by omega)
theorem mid_get (P M S : List Int) (k : Nat) (hk : k < M.length) : (P ++ M ++ S)[P.length + k]?.getD 0 = M[k]?.getD 0 := by
  rw [List.append_assoc, List.getElem?_append_right (by omega)]
  simp [List.getElem?_append_left hk]
theorem mid_set (P M S : List Int) (k : Nat) (x : Int) (hk : k < M.length) : (P ++ M ++ S).set (P.length + k) x = P ++ M.set k x ++ S := by
  rw [List.append_assoc, List.set_append_right _ _ (by omega)]
  simp [List.set_append_left _ _ hk]
theorem step_mul {P A D r c f x m h l s k B : Int} (hv : r + c * P = A + f * D) (hm : x * f + c = h * B + l) (ha : m + l = s + B * k) :
    (r + P * s) + (h + k) * (P * B) = (A + P * m) + f * (D + P * x) := by
  have e1 : P * (m + (x * f + c)) = P * (s + B * k + h * B) := by rw [hm]; congr 1; omega
  simp only [Int.mul_add, Int.add_mul, Int.mul_comm, Int.mul_left_comm, Int.mul_assoc] at *
  omega
theorem step_sum {P A D r c x y s c' B : Int} (h : r + c * P = A + D) (k : x + y + c = s + B * c') : (r + P * s) + c' * (P * B) = (A + P * x) + (D + P * y) := by
  have e1 : P * (x + y + c) = P * (s + B * c') := by rw [k]
  simp only [Int.mul_add, Int.mul_comm, Int.mul_left_comm] at *
  omega
theorem step_dif {P A D r c x y s c' B : Int} (h : r - c * P = A - D) (k : x - y - c = s - B * c') : (r + P * s) - c' * (P * B) = (A + P * x) - (D + P * y) := by
  have e1 : P * (x - y - c) = P * (s - B * c') := by rw [k]
  simp only [Int.mul_sub, Int.mul_comm, Int.mul_left_comm] at *
  omega
end Go.Proofs.Ytfhhnfpapgfnmaa.Dg

set_option linter.unusedVariables false
set_option linter.unusedSimpArgs false
namespace Go.Proofs.Ytfhhnfpapgfnmaa
open Go Go.RowKit

/-- The slice value v holds the numbers xs (of kind K) in the world w. -/
def Sl (K : IntKind) (w : World) (v : Value) (xs : List Int) : Prop :=
  ∃ ao cap, v = .slice ao xs.length cap ∧ xs.length ≤ cap ∧ cap ≤ maxLen ∧
    ∀ i, i < xs.length → ∃ b o, ao = some ⟨b, o, none⟩ ∧ b < w.heap.size ∧ w.cell? ⟨b, o + i, none⟩ = some (.int K (xs[i]?.getD 0))

theorem Sl.below {K : IntKind} {w w' : World} {v : Value} {xs : List Int} (h : Sl K w v xs) (hb : Below w.heap.size w w') : Sl K w' v xs := by
  obtain ⟨ao, cap, rfl, hc, hm, hx⟩ := h
  refine ⟨ao, cap, rfl, hc, hm, fun i hi => ?_⟩
  obtain ⟨b, o, e, hl, hcell⟩ := hx i hi
  exact ⟨b, o, e, Nat.lt_of_lt_of_le hl hb.size, (hb.cell (p := ⟨b, o + i, none⟩) hl).trans hcell⟩
theorem Sl.nil (K : IntKind) (w : World) : Sl K w (.slice none 0 0) [] :=
  ⟨none, 0, rfl, Nat.le_refl _, Nat.zero_le _, fun i hi => absurd hi (Nat.not_lt_zero _)⟩
theorem Sl.len {K : IntKind} {w : World} {v : Value} {xs : List Int} (h : Sl K w v xs) : xs.length ≤ maxLen := by
  obtain ⟨ao, cap, rfl, hc, hm, hx⟩ := h; exact Nat.le_trans hc hm

/-- The call returns a slice of its own that holds xs; of what was there nothing has turned. -/
def RetSl (K : IntKind) (w : World) (xs : List Int) (e : Ending) (w' : World) : Prop := Below w.heap.size w w' ∧ ∃ v', e = .returned v' ∧ Sl K w' v' xs ∧ ∀ k, v'.ownBlock = some k → w.heap.size ≤ k
/-- v lies in a block from B on, or has none. -/
def Frm (B : Nat) (v : Value) : Prop := ∀ k, v.ownBlock = some k → B ≤ k
theorem Frm.nil (B : Nat) : Frm B (.slice none 0 0) := fun k h => by simp [Value.ownBlock] at h
theorem Frm.mk {B b o n c : Nat} (h : B ≤ b) : Frm B (.slice (some ⟨b, o, none⟩) n c) := fun k hk => by simp [Value.ownBlock] at hk; omega
theorem Frm.of {B : Nat} {v v' : Value} (h : Frm B v) (hv : ∀ k, v'.ownBlock = some k → v.ownBlock = some k) : Frm B v' := fun k hk => h k (hv k hk)
theorem Frm.mono {B B' : Nat} {v : Value} (h : Frm B v) (hB : B' ≤ B) : Frm B' v := fun k hk => Nat.le_trans hB (h k hk)
def RetSame (K : IntKind) (w : World) (v : Value) (xs : List Int) (e : Ending) (w' : World) : Prop := w = w' ∧ ∃ v', e = .returned v' ∧ Sl K w v' xs ∧ ∀ k, v'.ownBlock = some k → v.ownBlock = some k
end Go.Proofs.Ytfhhnfpapgfnmaa

set_option linter.unusedVariables false
set_option linter.unusedSimpArgs false
namespace Go.Proofs.Ytfhhnfpapgfnmaa
open Go Go.RowKit

/-- Block g is a row of numbers of kind K (element type E), wholly xs. -/
def Row (E : TypeId) (K : IntKind) (w : World) (g : Nat) (xs : List Int) : Prop := w.heap[g]? = some (.cells (xs.map (Value.int K)).toArray E (0, 0))
section
variable {E : TypeId} {K : IntKind} {w w' : World} {g : Nat} {xs : List Int}
theorem Row.lt (h : Row E K w g xs) : g < w.heap.size := (Array.getElem?_eq_some_iff.1 h).1
theorem Row.cell (h : Row E K w g xs) {i : Nat} (hi : i < xs.length) : w.cell? ⟨g, i, none⟩ = some (.int K (xs[i]?.getD 0)) := by
  rw [cell_of_row w g i _ E (0, 0) h]; simp [hi]
theorem Row.free (h : Row E K w g xs) (i : Nat) : w.frozen? ⟨g, i, none⟩ = false := frozen_of_row w g i _ E h
theorem Row.set (h : Row E K w g xs) (i : Nat) (x : Int) : Row E K (w.setCell ⟨g, i, none⟩ (.int K x)) g (xs.set i x) := by
  have := heap_setCell_same w g i _ E (.int K x) h
  unfold Row
  rw [this]
  congr 1
  apply congrArg (fun a => Obj.cells a E (0, 0))
  simp [List.map_set]
theorem Row.keep (h : Row E K w g xs) (he : w'.heap[g]? = w.heap[g]?) : Row E K w' g xs := he.trans h
theorem Row.below (h : Row E K w g xs) (hb : Below w.heap.size w w') : Row E K w' g xs := (hb.block g h.lt).trans h
theorem Row.drew (h : Row E K w g xs) : Row E K w.drew g xs := h
theorem Row.alloc (h : Row E K w g xs) (o : Obj) : Row E K (w.alloc o) g xs := (heap_alloc_old w o h.lt).trans h
theorem Row.setOther (h : Row E K w g xs) {a : Addr} (v : Value) (hne : a.block ≠ g) : Row E K (w.setCell a v) g xs := (heap_setCell_other w a g v (fun e => hne e.symm)).trans h
/-- The block of a slice that is not empty. -/
def live : Value → Option Nat
  | .slice (some a) n _ => if n = 0 then none else some a.block
  | _ => none
theorem live_own {v : Value} {k : Nat} (h : live v = some k) : v.ownBlock = some k := by
  unfold live at h
  split at h
  · split at h
    · cases h
    · exact h
  · cases h
theorem Sl.live_lt {v : Value} (h : Sl K w v xs) {k : Nat} (hk : live v = some k) : k < w.heap.size := by
  obtain ⟨ao, cap, rfl, hc, hm, hx⟩ := h
  by_cases h0 : 0 < xs.length
  · obtain ⟨b, o, rfl, hb, _⟩ := hx 0 h0
    have := live_own hk
    simp [Value.ownBlock] at this
    omega
  · have : xs.length = 0 := by omega
    rw [this] at hk
    cases ao <;> simp [live] at hk
theorem Sl.kept {v : Value} {row : Option Nat} (h : Sl K w v xs) (hg : w.grownBy w' row) (hne : ∀ k, live v = some k → row ≠ some k) : Sl K w' v xs := by
  obtain ⟨ao, cap, rfl, hc, hm, hx⟩ := h
  refine ⟨ao, cap, rfl, hc, hm, fun i hi => ?_⟩
  obtain ⟨b, o, rfl, hl, hcell⟩ := hx i hi
  exact ⟨b, o, rfl, Nat.lt_of_lt_of_le hl hg.size, hg.cell hcell (fun e => hne b (by simp only [live]; rw [if_neg (by omega)]) e.symm)⟩
theorem Row.new (w : World) (xs : List Int) : Row E K (w.alloc (.cells (xs.map (Value.int K)).toArray E)) w.heap.size xs := heap_alloc_new w _
theorem Row.sl (h : Row E K w g xs) {o n cap : Nat} (hn : o + n ≤ xs.length) (hc : n ≤ cap) (hm : cap ≤ maxLen) : Sl K w (.slice (some ⟨g, o, none⟩) n cap) ((xs.drop o).take n) := by
  have e : ((xs.drop o).take n).length = n := by simp; omega
  refine ⟨_, cap, by rw [e], by rw [e]; exact hc, hm, fun i hi => ?_⟩
  have hi' : i < n := by rw [e] at hi; exact hi
  refine ⟨g, o, rfl, h.lt, ?_⟩
  rw [h.cell (by omega), List.getElem?_take, if_pos hi', List.getElem?_drop]
theorem Row.slAll (h : Row E K w g xs) {n cap : Nat} (hn : n = xs.length) (hc : n ≤ cap) (hm : cap ≤ maxLen) : Sl K w (.slice (some ⟨g, 0, none⟩) n cap) xs := by
  have := h.sl (o := 0) (n := n) (cap := cap) (by omega) hc hm
  simpa [hn] using this
end

/-- make([]T, n): a new row of zeros. -/
theorem wpList_make_zeros {P : Program} (w : World) {ops : Array Oper} {rest : List Oper} {o : Oper} {a : Act} {Q : Exit → Act → World → Prop}
    (hg : o.guard = none) (l c : Operand) (t : TypeId) (hop : o.op = Op.makeSlice t l c)
    (e : TypeId) (K : IntKind) (h1 : P.underlying t = some (.slice e)) (h2 : (P.info? e).map (fun i => (i.zero, i.size, i.bytes)) = some (some (.int K 0), 1, 8))
    (L C : Int) (n : Nat) (hl : a.eval l = .int .i64 L) (hc : a.eval c = .int .i64 C) (hL : L = (n : Int)) (hC : C = (n : Int)) (b2 : 8 * n ≤ 281474976710656)
    (hK : ∀ w', Row e K w' w.heap.size (List.replicate n 0) → Below w.heap.size w w' → wpList P ops Q rest (a.put o.dst (.slice (some ⟨w.heap.size, 0, none⟩) n n)) w') :
    wpList P ops Q (o :: rest) a w := by
  refine wpList_plain hg fun K' hK' => ?_
  obtain ⟨i, hi, hz, hs, hb⟩ := info_parts h2
  have hrun := run_make (P := P) w t e i (.int K 0) h1 hi hz .i64 .i64 n n (by omega) (Int.le_refl _) (by rw [hb]; omega) (by omega)
  subst hL
  subst hC
  unfold Oper.wp
  simp only [execOp, hop, hl, hc]
  simp [hrun, Result.andThen]
  refine hK' _ _ ?_
  refine hK _ ?_ ((Below.refl _ _).alloc (Nat.le_refl _) _)
  have hm : madeCells (Value.cells (.int K 0)) (n * i.size) = ((List.replicate n (0 : Int)).map (Value.int K)).toArray := by
    rw [hs, Nat.mul_one]
    apply Array.toList_inj.1
    rw [show Value.cells (.int K 0) = #[.int K 0] from rfl, toList_madeCells_one]
    simp
  rw [hm]
  exact Row.new w _
end Go.Proofs.Ytfhhnfpapgfnmaa

set_option linter.unusedVariables false
set_option linter.unusedSimpArgs false
namespace Go.Proofs.Ytfhhnfpapgfnmaa
open Go Go.RowKit

/-- The slice value v holds xs, in a block of the call's own (from number B on), or is nil. -/
def Mine (E : TypeId) (K : IntKind) (B : Nat) (w : World) (v : Value) (xs : List Int) : Prop :=
  (v = .slice none 0 0 ∧ xs = []) ∨
    ∃ g cap cur, v = .slice (some ⟨g, 0, none⟩) xs.length cap ∧ B ≤ g ∧ w.heap[g]? = some (.cells cur E (0, 0)) ∧ xs.length ≤ cap ∧ cap ≤ cur.size ∧ cap ≤ maxLen ∧ cur.toList.take xs.length = xs.map (Value.int K)
section
variable {E : TypeId} {K : IntKind} {B : Nat} {w w' : World} {v : Value} {xs : List Int}
theorem Mine.nil (E : TypeId) (K : IntKind) (B : Nat) (w : World) : Mine E K B w (.slice none 0 0) [] := .inl ⟨rfl, rfl⟩
theorem Mine.sl (h : Mine E K B w v xs) : Sl K w v xs := by
  rcases h with ⟨rfl, rfl⟩ | ⟨g, cap, cur, rfl, hB, hg, hn, hc, hm, ht⟩
  · exact Sl.nil _ _
  · refine ⟨_, cap, rfl, hn, hm, fun i hi => ⟨g, 0, rfl, (Array.getElem?_eq_some_iff.1 hg).1, ?_⟩⟩
    rw [Nat.zero_add, cell_of_row w g i cur E (0, 0) hg]
    have : (cur.toList.take xs.length)[i]? = cur[i]? := by rw [List.getElem?_take, if_pos hi]; simp
    rw [← this, ht]
    simp [hi]
theorem Mine.own (h : Mine E K B w v xs) : ∀ k, v.ownBlock = some k → B ≤ k ∧ k < w.heap.size := by
  intro k hk
  rcases h with ⟨rfl, rfl⟩ | ⟨g, cap, cur, rfl, hB, hg, hn, hc, hm, ht⟩
  · simp [Value.ownBlock] at hk
  · simp [Value.ownBlock] at hk
    subst hk
    exact ⟨hB, (Array.getElem?_eq_some_iff.1 hg).1⟩
theorem Mine.kept {row : Option Nat} (h : Mine E K B w v xs) (hg : w.grownBy w' row) (hne : v.ownBlock = none ∨ v.ownBlock ≠ row) : Mine E K B w' v xs := by
  rcases h with h | ⟨g, cap, cur, rfl, hB, hgg, rest⟩
  · exact .inl h
  · refine .inr ⟨g, cap, cur, rfl, hB, ?_, rest⟩
    rw [hg.block g (Array.getElem?_eq_some_iff.1 hgg).1 (by simpa [Value.ownBlock] using hne)]
    exact hgg
theorem Mine.below (h : Mine E K B w v xs) (hb : Below w.heap.size w w') : Mine E K B w' v xs :=
  h.kept (row := none) ⟨hb.os, hb.tape, hb.output, hb.size, fun i hi _ => hb.block i hi⟩ (by cases hv : v.ownBlock <;> simp)
theorem Mine.alloc (h : Mine E K B w v xs) (o : Obj) : Mine E K B (w.alloc o) v xs := h.kept (World.grownBy_alloc w o none) (by cases hv : v.ownBlock <;> simp)
theorem Mine.lower {B' : Nat} (h : Mine E K B w v xs) (hB : B' ≤ B) : Mine E K B' w v xs := by
  rcases h with h | ⟨g, cap, cur, rfl, hb, rest⟩
  · exact .inl h
  · exact .inr ⟨g, cap, cur, rfl, by omega, rest⟩
/-- A place of the row: its address, its cell, that it may be written; and what is held behind a store. -/
theorem Mine.at (h : Mine E K B w v xs) {i : Nat} (hi : i < xs.length) : ∃ g cap, v = .slice (some ⟨g, 0, none⟩) xs.length cap ∧ B ≤ g ∧ g < w.heap.size ∧ xs.length ≤ cap ∧ cap ≤ maxLen ∧ w.cell? ⟨g, i, none⟩ = some (.int K (xs[i]?.getD 0)) ∧ w.frozen? ⟨g, i, none⟩ = false ∧
    (∀ x, Mine E K B (w.setCell ⟨g, i, none⟩ (.int K x)) v (xs.set i x)) := by
  rcases h with ⟨rfl, rfl⟩ | ⟨g, cap, cur, rfl, hB, hg, hn, hc, hm, ht⟩
  · simp at hi
  · have hcell : w.cell? ⟨g, i, none⟩ = some (.int K (xs[i]?.getD 0)) := by
      rw [cell_of_row w g i cur E (0, 0) hg]
      have : (cur.toList.take xs.length)[i]? = cur[i]? := by rw [List.getElem?_take, if_pos hi]; simp
      rw [← this, ht]
      simp [hi]
    refine ⟨g, cap, rfl, hB, (Array.getElem?_eq_some_iff.1 hg).1, hn, hm, hcell, frozen_of_row w g i cur E hg, fun x => .inr ⟨g, cap, cur.setIfInBounds i (.int K x), by simp, hB, heap_setCell_same w g i cur E _ hg, by simpa using hn, by simpa using hc, hm, ?_⟩⟩
    rw [Array.toList_setIfInBounds, List.length_set, List.take_set, ht, List.map_set]
theorem Mine.of_owns {n : Nat} (h : w.ownsRow B E 1 v n (xs.map (Value.int K))) : Mine E K B w v xs := by
  have hl : xs.length = n := by simpa using h.1
  rcases h.2 with ⟨rfl, h0⟩ | ⟨g, cap, cur, rfl, hg, hh, hn, hm, hc, ht⟩
  · have : xs = [] := by cases xs with | nil => rfl | cons => simp at hl; omega
    exact .inl ⟨rfl, this⟩
  · exact .inr ⟨g, cap, cur, by rw [hl], hg, hh, by omega, by omega, hm, by rw [hl]; simpa using ht⟩
end
/-- append to a slice of the call's own. -/
theorem run_append_mine {P : Program} (w : World) (t ty E : TypeId) (K : IntKind) (bytes : Nat) (ht : P.underlying t = some (.slice E))
    (hinfo : (P.info? E).map (fun i => (i.zero, i.size, i.bytes)) = some (some (.int K 0), 1, bytes)) (B : Nat) (v : Value) (xs : List Int) (hM : Mine E K B w v xs) (hB : B ≤ w.heap.size)
    (a : Addr) (c : Nat) (news : List Int) (hnews : ∀ j u, (news.map (Value.int K))[j]? = some u → w.cell? (a.add j) = some u)
    (hb : (xs.length + news.length) * bytes ≤ 140737488355328) (hm : xs.length + news.length ≤ maxLen) :
    ∃ v' w', (Builtin.append_ #[t, t] ty #[v, .slice (some a) news.length c]).run P w = .ok v' w' ∧ Mine E K B w' v' (xs ++ news) ∧ w.grownBy w' v.ownBlock ∧ (v'.ownBlock = v.ownBlock ∨ Frm w.heap.size v') := by
  obtain ⟨i, hi, hz, hs, hby⟩ := info_parts hinfo
  have hone : ∀ u ∈ news.map (Value.int K), u.oneCell' = true := by
    intro u hu
    obtain ⟨a, _, rfl⟩ := List.mem_map.1 hu
    rfl
  have hl : (news.map (Value.int K)).length = news.length * 1 := by simp
  rcases hM with ⟨rfl, rfl⟩ | ⟨g, cap, cur, rfl, hBg, hg, hn, hc, hcm, htk⟩
  · obtain ⟨v', w', hr, h2, h3, _⟩ := run_append_own (P := P) w w.heap.size t ty E i (.int K 0) 1 bytes ht hi hz hs hby rfl (by decide) (.slice none 0 0) 0 [] (World.ownsRow_nil w w.heap.size E 1) a news.length c (news.map (Value.int K)) hl hnews hone (by simpa using hm) (by simpa using hb) (Nat.le_refl _)
    exact ⟨v', w', hr, (Mine.of_owns (n := 0 + news.length) (by simpa using h2)).lower hB, h3, .inr (fun k hk => (h2.lt k hk).1)⟩
  · by_cases hroom : xs.length + news.length ≤ cap
    · have hfit : xs.length * i.size + (news.map (Value.int K)).length ≤ cur.size := by rw [hs]; simp; omega
      have hr := run_append_room (P := P) w t ty E i ht hi g xs.length cap cur hg a news.length c (news.map (Value.int K)) (by rw [hs]; exact hl) hnews hone hroom hfit
      rw [hs, Nat.mul_one] at hr
      refine ⟨_, _, hr, .inr ⟨g, cap, _, by simp, hBg, setRow_heap w g cur _ E _ hg, by simpa using hroom, ?_, hcm, ?_⟩, ⟨rfl, rfl, rfl, by simp, fun k _ hk => setRow_other w g k _ (fun e => hk (by simp [Value.ownBlock, e]))⟩, .inl rfl⟩
      · simp only [List.size_toArray, List.length_append, List.length_take, List.length_drop, Array.length_toList, List.length_map]
        omega
      · rw [htk, List.length_append, List.map_append]
        have : (xs.map (Value.int K) ++ news.map (Value.int K)).length = xs.length + news.length := by simp
        rw [← this]
        exact List.take_left
    · have holds : ∀ j u, (xs.map (Value.int K))[j]? = some u → w.cell? ((⟨g, 0, none⟩ : Addr).add j) = some u := by
        intro j u hu
        have e : (⟨g, 0, none⟩ : Addr).add j = ⟨g, j, none⟩ := by unfold Addr.add; split <;> simp_all
        rw [e, cell_of_row w g j cur E (0, 0) hg]
        have hj : j < xs.length := by
          apply Classical.byContradiction
          intro hc'
          simp [hc'] at hu
        rw [← htk, List.getElem?_take, if_pos hj] at hu
        simpa using hu
      obtain ⟨v', w', hr, h2, h3⟩ := run_append_arg_grows (P := P) w t ty E i (.int K 0) 1 bytes ht hi hz hs hby rfl (by decide) ⟨g, 0, none⟩ xs.length cap (xs.map (Value.int K)) (by simp) holds a news.length c (news.map (Value.int K)) hl hnews (by omega) hm hb
      refine ⟨v', w', hr, ?_, ⟨h3.os, h3.tape, h3.output, h3.size, fun k hk _ => h3.block k hk (by simp)⟩, .inr (fun k hk => (h2.lt k hk).1)⟩
      exact (Mine.of_owns (n := xs.length + news.length) (by simpa using h2)).lower hB
theorem wpList_append_mine {P : Program} (w : World) {ops : Array Oper} {rest : List Oper} {o : Oper} {a : Act} {Q : Exit → Act → World → Prop} (hgd : o.guard = none) (s x : Operand) (t : TypeId)
    (ho : o.op = .call { callee := .builtin .append, args := #[s, x], argTypes := #[t, t] }) (E : TypeId) (K : IntKind) (bytes : Nat) (ht : P.underlying t = some (.slice E))
    (hinfo : (P.info? E).map (fun i => (i.zero, i.size, i.bytes)) = some (some (.int K 0), 1, bytes)) (B : Nat) (v : Value) (xs : List Int) (hs : a.eval s = v) (hM : Mine E K B w v xs) (hB : B ≤ w.heap.size)
    (ad : Addr) (m c : Nat) (news : List Int) (hx : a.eval x = .slice (some ad) m c) (hl : news.length = m) (hnews : ∀ j u, (news.map (Value.int K))[j]? = some u → w.cell? (ad.add j) = some u)
    (hb : (xs.length + news.length) * bytes ≤ 140737488355328) (hm : xs.length + news.length ≤ maxLen)
    (h : ∀ v' w', Mine E K B w' v' (xs ++ news) → w.grownBy w' v.ownBlock → (v'.ownBlock = v.ownBlock ∨ Frm w.heap.size v') → wpList P ops Q rest (a.put o.dst v') w') : wpList P ops Q (o :: rest) a w := by
  refine wpList_plain hgd fun K' hK => ?_
  subst hl
  obtain ⟨v', w', hrun, r1, r2, r3⟩ := run_append_mine (P := P) w t o.type E K bytes ht hinfo B v xs hM hB ad c news hnews hb hm
  unfold Oper.wp
  simp [execOp, ho, resolve, invoke, builtin, hs, hx, hrun, Result.andThen]
  exact hK _ _ (h v' w' r1 r2 r3)
theorem new_one {K : IntKind} {w : World} {b o : Nat} {x : Int} (h : w.cell? ⟨b, o, none⟩ = some (.int K x)) : ∀ j u, ([x].map (Value.int K))[j]? = some u → w.cell? ((⟨b, o, none⟩ : Addr).add j) = some u := by
  intro j u hu
  cases j with
  | zero => simp at hu; subst hu; rw [← h]; congr 1
  | succ j => simp at hu
end Go.Proofs.Ytfhhnfpapgfnmaa
