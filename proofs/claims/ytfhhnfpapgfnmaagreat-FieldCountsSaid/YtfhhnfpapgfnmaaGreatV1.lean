/-
  Texts of the proof, merged by program: Pob Dg Sl Row TWat TCut TSum TCmp TMul TAddMul TSum2.
-/
import Derived.Test.YtfhhnfpapgfnmaaGreatRows
import Derived.WalkKit
import Derived.ProofKit
import Derived.OpenShut
import Derived.Below
import Derived.ChangeSame
import Derived.WalkSpells
import Derived.WalkLawsBesides
import Derived.Lib.Hide
import Derived.Test.YtfhhnfpapgfnmaaGreatProg
import Derived.Laws.Externs
import Derived.Deep.QuietTactic
import Derived.BigQuiet
import Derived.Test.YtfhhnfpapgfnmaaGreatShelf
import Derived.Deep.DeepMust
set_option linter.unusedVariables false
namespace Go.Proofs.YtfhhnfpapgfnmaaGreat
open Go Go.ChangeShapes Go.WideShapes Go.ChangeAt Go.RowKit
/-! The last step of a law's row: nothing of what was there has turned. -/
section
variable {H : Type} {enc : TypeId × Value → H} {P : Program}
theorem post_of_below {f : Func} {s : ChangeSpec} {apart fresh handsOn again : Bool} {W W' : World} {args : Array Value} {v : Value} {ds gs : List (DataW H)} {before pa pv : List MemPlace}
    (hW : DataW.Whole enc P f.params.toList s.vars apart W args.toList ds gs before)
    (hres : ∀ (b : Nat) (sp : Nat → Bool) (hd : Bool), DataW.TrodAll enc P W' b sp hd f.resultTypes.toList (v.resultList f.resultTypes.size) (s.fn H (ds ++ gs)).results [])
    (hargs : ∀ sp : Nat → Bool, (∀ p ∈ before, sp p.block = true) → DataW.TrodAll enc P W' 0 sp true f.params.toList args.toList (s.fn H (ds ++ gs)).args pa)
    (hvars : ∀ sp : Nat → Bool, (∀ p ∈ before, sp p.block = true) → DataW.TrodVars enc P W' sp s.vars (s.fn H (ds ++ gs)).vars pv)
    (hps : before = pa ++ pv) (hb : Below W.heap.size W W')
    (hok : ∀ (j : Nat) (t : TypeId) (r : Value), f.resultTypes[j]? = some t → (v.resultList f.resultTypes.size)[j]? = some r → Value.okWide P W' .any 0 t r) :
    s.post enc P f apart fresh handsOn again W args v W' := by
  have hlt : ∀ p ∈ before, p.block < W.heap.size := fun p hp => hW.lt p hp
  have hold : ∀ p ∈ before, (fun b => decide (b < W.heap.size)) p.block = true := fun p hp => by simpa using hlt p hp
  refine ⟨ds, gs, before, [], pa, pv, hW, hres _ _ _, hargs _ hold, hvars _ hold, World.keptBut_mono (fun p hp => ⟨hp, ?_⟩) (hb.frame (· ∈ before)), fun _ => ?_⟩
  · rw [hps, List.mem_append] at hp
    exact Or.inr hp
  · obtain ⟨_, _, _, _, _, hz, hn⟩ := hW
    refine ⟨hok, _, _, ([] ++ pa) ++ pv, ⟨[] ++ pa, pv, trodAll_append (hargs _ (fun _ _ => rfl)) (hres _ _ _), hvars _ (fun _ _ => rfl), rfl, ?_, ?_⟩, ?_⟩
    · intro b off hp
      have hin : MemPlace.cell b off ∈ before := by rw [hps]; simpa using hp
      rw [hb.frozen (hlt _ hin)]
      exact hz b off hin
    · intro ha
      have := hn ha
      rw [hps] at this
      simpa using this
    · intro p hp _
      rw [hps]
      simpa using hp
end
theorem i64_bounds {n : Int} (h : (Lit.int .i64 n).wf = true) : -9223372036854775808 ≤ n ∧ n ≤ 9223372036854775807 := by
  have h2 : (decide (IntKind.i64.min ≤ n) && decide (n ≤ IntKind.i64.max)) = true := h
  rw [Bool.and_eq_true, decide_eq_true_eq, decide_eq_true_eq] at h2
  exact h2
end Go.Proofs.YtfhhnfpapgfnmaaGreat

/-! Plain facts on numbers as lists of digits, the lowest one first. No program. -/
set_option linter.unusedVariables false
set_option linter.unusedSimpArgs false
namespace Go.Proofs.YtfhhnfpapgfnmaaGreat.Dg

/-- The number whose digits to the base B are xs, the lowest first. -/
def val (B : Int) : List Int → Int
  | [] => 0
  | x :: xs => x + B * val B xs

/-- Every digit is one to the base B. -/
def Wf (B : Int) (xs : List Int) : Prop := ∀ x ∈ xs, 0 ≤ x ∧ x < B

/-- The last digit is not 0. -/
def Nz (xs : List Int) : Prop := ∀ h : xs ≠ [], xs.getLast h ≠ 0

theorem Wf.nil (B : Int) : Wf B [] := fun _ h => by cases h
theorem Wf.cons {B x : Int} {xs : List Int} (h : Wf B (x :: xs)) : 0 ≤ x ∧ x < B ∧ Wf B xs :=
  ⟨(h x (by simp)).1, (h x (by simp)).2, fun y hy => h y (by simp [hy])⟩
theorem Wf.mk {B x : Int} {xs : List Int} (h0 : 0 ≤ x) (h1 : x < B) (h : Wf B xs) : Wf B (x :: xs) := by
  intro y hy
  rcases List.mem_cons.1 hy with rfl | hy
  · exact ⟨h0, h1⟩
  · exact h y hy
theorem Wf.append {B : Int} {xs ys : List Int} (h : Wf B xs) (k : Wf B ys) : Wf B (xs ++ ys) := by
  intro y hy
  rcases List.mem_append.1 hy with hy | hy
  · exact h y hy
  · exact k y hy
theorem Wf.take {B : Int} {xs : List Int} (h : Wf B xs) (n : Nat) : Wf B (xs.take n) := fun y hy => h y (List.mem_of_mem_take hy)
theorem Wf.drop {B : Int} {xs : List Int} (h : Wf B xs) (n : Nat) : Wf B (xs.drop n) := fun y hy => h y (List.mem_of_mem_drop hy)
theorem Wf.one {B x : Int} (h0 : 0 ≤ x) (h1 : x < B) : Wf B [x] := Wf.mk h0 h1 (Wf.nil B)
theorem Wf.zeros {B : Int} (hB : 0 < B) (n : Nat) : Wf B (List.replicate n 0) := by
  intro y hy
  have := List.eq_of_mem_replicate hy
  omega
theorem Wf.get {B : Int} {xs : List Int} (h : Wf B xs) (i : Nat) (hi : i < xs.length) : 0 ≤ xs[i] ∧ xs[i] < B := h _ (List.getElem_mem hi)
theorem Wf.getD {B : Int} {xs : List Int} (hB : 0 < B) (h : Wf B xs) (i : Nat) : 0 ≤ xs[i]?.getD 0 ∧ xs[i]?.getD 0 < B := by
  by_cases hi : i < xs.length
  · simpa [hi] using h.get i hi
  · simp [hi, hB]
theorem Wf.set {B x : Int} {xs : List Int} (h : Wf B xs) (i : Nat) (h0 : 0 ≤ x) (h1 : x < B) : Wf B (xs.set i x) := by
  intro y hy
  rcases List.mem_or_eq_of_mem_set hy with hy | rfl
  · exact h y hy
  · exact ⟨h0, h1⟩

theorem val_cons (B x : Int) (xs : List Int) : val B (x :: xs) = x + B * val B xs := rfl
theorem val_one (B x : Int) : val B [x] = x := by simp [val]

theorem val_append (B : Int) (xs ys : List Int) : val B (xs ++ ys) = val B xs + B ^ xs.length * val B ys := by
  induction xs with
  | nil => simp [val]
  | cons x xs ih =>
    simp only [List.cons_append, val, ih, List.length_cons, Int.pow_succ, Int.mul_add, Int.mul_assoc, Int.add_assoc, Int.mul_left_comm B]

theorem val_zeros (B : Int) (n : Nat) : val B (List.replicate n 0) = 0 := by
  induction n with
  | zero => rfl
  | succ n ih => simp [List.replicate_succ, val, ih]

theorem val_snoc_zeros (B : Int) (xs : List Int) (n : Nat) : val B (xs ++ List.replicate n 0) = val B xs := by simp [val_append, val_zeros]

theorem pow_pos {B : Int} (hB : 0 < B) (n : Nat) : 0 < B ^ n := by
  induction n with
  | zero => simp
  | succ n ih => rw [Int.pow_succ]; exact Int.mul_pos ih hB

theorem val_nonneg {B : Int} (hB : 0 < B) {xs : List Int} (h : Wf B xs) : 0 ≤ val B xs := by
  induction xs with
  | nil => simp [val]
  | cons x xs ih =>
    obtain ⟨h0, _, hw⟩ := h.cons
    have := Int.mul_nonneg (show 0 ≤ B by omega) (ih hw)
    simp only [val]
    omega

theorem val_lt {B : Int} (hB : 0 < B) {xs : List Int} (h : Wf B xs) : val B xs < B ^ xs.length := by
  induction xs with
  | nil => simp [val]
  | cons x xs ih =>
    obtain ⟨_, h1, hw⟩ := h.cons
    have k := ih hw
    have k2 : B * (val B xs + 1) ≤ B * B ^ xs.length := Int.mul_le_mul_of_nonneg_left (by omega) (by omega)
    simp only [val, List.length_cons, Int.pow_succ, Int.mul_comm _ B]
    rw [Int.mul_add] at k2
    omega

theorem pow_mono {B : Int} (hB : 0 < B) {m n : Nat} (h : m ≤ n) : B ^ m ≤ B ^ n := by
  obtain ⟨k, rfl⟩ := Nat.exists_eq_add_of_le h
  rw [Int.pow_add]
  have h1 := pow_pos hB m
  have h2 := pow_pos hB k
  have := Int.mul_le_mul_of_nonneg_left (show 1 ≤ B ^ k by omega) (show 0 ≤ B ^ m by omega)
  omega

theorem val_ge {B : Int} (hB : 0 < B) {xs : List Int} (h : Wf B xs) (hn : Nz xs) (hne : xs ≠ []) : B ^ (xs.length - 1) ≤ val B xs := by
  have e := List.dropLast_concat_getLast hne
  have hl : 0 ≤ xs.getLast hne := (h _ (List.getLast_mem hne)).1
  have hz := hn hne
  have hw : Wf B xs.dropLast := fun y hy => h y (List.dropLast_subset _ hy)
  have h0 := val_nonneg hB hw
  rw [← e, val_append, val_one]
  have hp := pow_pos hB xs.dropLast.length
  have := Int.mul_le_mul_of_nonneg_left (show 1 ≤ xs.getLast hne by omega) (show 0 ≤ B ^ xs.dropLast.length by omega)
  simp only [List.length_dropLast, List.length_append, List.length_singleton] at *
  have el : xs.length - 1 + 1 - 1 = xs.length - 1 := by omega
  rw [el]
  omega

theorem Nz.nil : Nz [] := fun h => absurd rfl h

theorem val_zero_iff {B : Int} (hB : 0 < B) {xs : List Int} (h : Wf B xs) (hn : Nz xs) : val B xs = 0 ↔ xs = [] := by
  constructor
  · intro hv
    apply Classical.byContradiction
    intro hne
    have := val_ge hB h hn hne
    have := pow_pos hB (xs.length - 1)
    omega
  · rintro rfl; rfl

theorem val_pos {B : Int} (hB : 0 < B) {xs : List Int} (h : Wf B xs) (hn : Nz xs) (hne : xs ≠ []) : 0 < val B xs := by
  have := val_ge hB h hn hne
  have := pow_pos hB (xs.length - 1)
  omega

theorem len_le_of_val_lt {B : Int} (hB : 1 < B) {xs : List Int} (h : Wf B xs) (hn : Nz xs) {n : Nat} (hv : val B xs < B ^ n) : xs.length ≤ n := by
  apply Classical.byContradiction
  intro hc
  have hne : xs ≠ [] := by rintro rfl; simp at hc
  have h1 := val_ge (by omega) h hn hne
  have h2 : B ^ n ≤ B ^ (xs.length - 1) := pow_mono (by omega) (by omega)
  omega

theorem val_lt_of_len {B : Int} (hB : 1 < B) {xs ys : List Int} (hx : Wf B xs) (hy : Wf B ys) (ny : Nz ys) (h : xs.length < ys.length) : val B xs < val B ys := by
  have hne : ys ≠ [] := by rintro rfl; simp at h
  have h1 := val_ge (by omega) hy ny hne
  have h2 := val_lt (show 0 < B by omega) hx
  have h3 : B ^ xs.length ≤ B ^ (ys.length - 1) := pow_mono (by omega) (by omega)
  omega

theorem take_succ (xs : List Int) (i : Nat) (hi : i < xs.length) : xs.take (i + 1) = xs.take i ++ [xs[i]] := by
  rw [List.take_succ_eq_append_getElem hi]
theorem val_take_succ (B : Int) (xs : List Int) (i : Nat) (hi : i < xs.length) : val B (xs.take (i + 1)) = val B (xs.take i) + B ^ i * xs[i] := by
  rw [take_succ xs i hi, val_append, val_one]
  simp [Nat.min_eq_left (Nat.le_of_lt hi)]
theorem val_take_succD (B : Int) (xs : List Int) (i : Nat) : val B (xs.take (i + 1)) = val B (xs.take i) + B ^ i * xs[i]?.getD 0 := by
  by_cases hi : i < xs.length
  · rw [val_take_succ B xs i hi]; simp [hi]
  · rw [List.take_of_length_le (by omega), List.take_of_length_le (by omega)]; simp [hi]
theorem take_set_succ (zs : List Int) (k : Nat) (s : Int) (hk : k < zs.length) : (zs.set k s).take (k + 1) = zs.take k ++ [s] := by
  rw [List.take_succ_eq_append_getElem (by simpa using hk)]
  simp only [List.take_set, List.getElem_set_self]
  rw [List.set_eq_of_length_le (by simp; omega)]
theorem set_last (zs : List Int) (k : Nat) (s : Int) (hk : zs.length = k + 1) : zs.set k s = zs.take k ++ [s] := by
  rw [← take_set_succ zs k s (by omega), List.take_of_length_le (by simp; omega)]
theorem val_split (B : Int) (xs : List Int) (i : Nat) (h : i ≤ xs.length) : val B xs = val B (xs.take i) + B ^ i * val B (xs.drop i) := by
  conv => lhs; rw [← List.take_append_drop i xs, val_append]
  simp [Nat.min_eq_left h]

/-- Alike from k + 1 on, less at k: less. -/
theorem val_lt_at {B : Int} (hB : 0 < B) {xs ys : List Int} (hx : Wf B xs) (hy : Wf B ys) (hl : xs.length = ys.length) {k : Nat} (hk : k < xs.length)
    (hd : xs.drop (k + 1) = ys.drop (k + 1)) (h : xs[k]?.getD 0 < ys[k]?.getD 0) : val B xs < val B ys := by
  rw [val_split B xs (k + 1) (by omega), val_split B ys (k + 1) (by omega), hd, val_take_succD, val_take_succD]
  have h1 := val_lt hB (hx.take k)
  have h2 := val_nonneg hB (hy.take k)
  have hp := pow_pos hB k
  have hlen : (xs.take k).length = k := by simp; omega
  rw [hlen] at h1
  have := Int.mul_le_mul_of_nonneg_left (show xs[k]?.getD 0 + 1 ≤ ys[k]?.getD 0 from h) (Int.le_of_lt hp)
  rw [Int.mul_add] at this
  omega
theorem drop_eq_at {xs ys : List Int} (hl : xs.length = ys.length) {k : Nat} (hd : xs.drop (k + 1) = ys.drop (k + 1)) (h : xs[k]?.getD 0 = ys[k]?.getD 0) : xs.drop k = ys.drop k := by
  by_cases hk : k < xs.length
  · have hk' : k < ys.length := by omega
    rw [List.drop_eq_getElem_cons hk, List.drop_eq_getElem_cons hk', hd]
    simp [hk, hk'] at h
    rw [h]
  · rw [List.drop_of_length_le (by omega), List.drop_of_length_le (by omega)]
/-- The sign of x - y. -/
def sg (x y : Int) : Int := if x < y then -1 else if y < x then 1 else 0
theorem sg_lt {x y : Int} (h : x < y) : sg x y = -1 := by simp [sg, h]
theorem sg_gt {x y : Int} (h : y < x) : sg x y = 1 := by unfold sg; rw [if_neg (by omega), if_pos h]
theorem sg_eq (x : Int) : sg x x = 0 := by simp [sg]

/-- Without the zeros at the end. -/
def cut : List Int → List Int
  | [] => []
  | x :: xs => if x = 0 ∧ cut xs = [] then [] else x :: cut xs

theorem val_cut (B : Int) (xs : List Int) : val B (cut xs) = val B xs := by
  induction xs with
  | nil => rfl
  | cons x xs ih =>
    unfold cut
    split
    · rename_i h; simp only [val]; rw [← ih, h.2, h.1]; simp [val]
    · simp only [val, ih]
theorem Wf.cut {B : Int} {xs : List Int} (h : Wf B xs) : Wf B (Dg.cut xs) := by
  induction xs with
  | nil => exact h
  | cons x xs ih =>
    obtain ⟨h0, h1, hw⟩ := h.cons
    unfold Dg.cut
    split
    · exact Wf.nil B
    · exact Wf.mk h0 h1 (ih hw)
theorem nz_cut (xs : List Int) : Nz (cut xs) := by
  induction xs with
  | nil => exact Nz.nil
  | cons x xs ih =>
    unfold cut
    split
    · exact Nz.nil
    · rename_i h
      intro hne
      by_cases hc : cut xs = []
      · simp only [hc, List.getLast_singleton]
        exact fun hx => h ⟨hx, hc⟩
      · rw [List.getLast_cons hc]; exact ih hc
theorem cut_len (xs : List Int) : (cut xs).length ≤ xs.length := by
  induction xs with
  | nil => simp [cut]
  | cons x xs ih => unfold cut; split <;> simp; omega

/-- What is cut away is zeros: the cut at n is right if what lies behind is 0 and what lies ahead ends in no 0. -/
theorem cut_eq (xs : List Int) (n : Nat) (hz : ∀ i, n ≤ i → xs[i]?.getD 0 = 0) (hn : n = 0 ∨ xs[n - 1]?.getD 0 ≠ 0) : cut xs = xs.take n := by
  induction xs generalizing n with
  | nil => simp [cut]
  | cons x xs ih =>
    cases n with
    | zero =>
      have hx : x = 0 := by simpa using hz 0 (by omega)
      have := ih 0 (fun i _ => by simpa using hz (i + 1) (by omega)) (Or.inl rfl)
      simp [cut, hx, this]
    | succ n =>
      have h1 := ih n (fun i hi => by simpa using hz (i + 1) (by omega)) (by
        rcases Nat.eq_zero_or_pos n with h | h
        · exact Or.inl h
        · right
          rcases hn with hn | hn
          · omega
          · obtain ⟨m, rfl⟩ : ∃ m, n = m + 1 := ⟨n - 1, by omega⟩
            simpa using hn)
      unfold cut
      rw [h1]
      split
      · rename_i h
        exfalso
        obtain ⟨hx, ht⟩ := h
        rcases hn with hn | hn
        · omega
        · rcases Nat.eq_zero_or_pos n with h0 | h0
          · subst h0; simp at hn; exact hn hx
          · obtain ⟨m, rfl⟩ : ∃ m, n = m + 1 := ⟨n - 1, by omega⟩
            have : xs = [] := by
              cases xs with
              | nil => rfl
              | cons => simp at ht
            subst this
            simp at hn
      · simp
theorem val_of_zeros {B : Int} {xs : List Int} (h : ∀ i : Nat, xs[i]?.getD 0 = 0) : val B xs = 0 := by
  induction xs with
  | nil => rfl
  | cons x xs ih =>
    have h0 : x = 0 := by simpa using h 0
    rw [val, ih (fun i => by simpa using h (i + 1)), h0]
    simp
theorem val_set_zeros {B c : Int} {xs : List Int} (h : ∀ i : Nat, xs[i]?.getD 0 = 0) (hl : 0 < xs.length) : val B (xs.set 0 c) = c := by
  cases xs with
  | nil => simp at hl
  | cons x xs =>
    have := val_of_zeros (B := B) (xs := xs) (fun i => by simpa using h (i + 1))
    simp [val, this]
theorem three (T : List Int) (k n : Nat) : T.take k ++ (T.drop k).take n ++ T.drop (k + n) = T := by
  rw [List.append_assoc, ← List.drop_drop, List.take_append_drop, List.take_append_drop]
theorem mul_bound {x y B : Int} (hx : 0 ≤ x) (hx1 : x < B) (hy : 0 ≤ y) (hy1 : y < B) : x * y ≤ (B - 1) * (B - 1) :=
  Int.mul_le_mul (by omega) (by omega) hy (by omega)
theorem mid_get (P M S : List Int) (k : Nat) (hk : k < M.length) : (P ++ M ++ S)[P.length + k]?.getD 0 = M[k]?.getD 0 := by
  rw [List.append_assoc, List.getElem?_append_right (by omega)]
  simp [List.getElem?_append_left hk]
theorem mid_set (P M S : List Int) (k : Nat) (x : Int) (hk : k < M.length) : (P ++ M ++ S).set (P.length + k) x = P ++ M.set k x ++ S := by
  rw [List.append_assoc, List.set_append_right _ _ (by omega)]
  simp [List.set_append_left _ _ hk]
theorem step_mul {P A D r c f x m h l s k B : Int} (hv : r + c * P = A + f * D) (hm : x * f + c = h * B + l) (ha : m + l = s + B * k) :
    (r + P * s) + (h + k) * (P * B) = (A + P * m) + f * (D + P * x) := by
  have e1 : P * (m + (x * f + c)) = P * (s + B * k + h * B) := by rw [hm]; congr 1; omega
  simp only [Int.mul_add, Int.add_mul, Int.mul_comm, Int.mul_left_comm, Int.mul_assoc] at *
  omega
theorem step_sum {P A D r c x y s c' B : Int} (h : r + c * P = A + D) (k : x + y + c = s + B * c') : (r + P * s) + c' * (P * B) = (A + P * x) + (D + P * y) := by
  have e1 : P * (x + y + c) = P * (s + B * c') := by rw [k]
  simp only [Int.mul_add, Int.mul_comm, Int.mul_left_comm] at *
  omega
theorem step_dif {P A D r c x y s c' B : Int} (h : r - c * P = A - D) (k : x - y - c = s - B * c') : (r + P * s) - c' * (P * B) = (A + P * x) - (D + P * y) := by
  have e1 : P * (x - y - c) = P * (s - B * c') := by rw [k]
  simp only [Int.mul_sub, Int.mul_comm, Int.mul_left_comm] at *
  omega
end Go.Proofs.YtfhhnfpapgfnmaaGreat.Dg

set_option linter.unusedVariables false
set_option linter.unusedSimpArgs false
namespace Go.Proofs.YtfhhnfpapgfnmaaGreat
open Go Go.RowKit

/-- The slice value v holds the numbers xs (of kind K) in the world w. -/
def Sl (K : IntKind) (w : World) (v : Value) (xs : List Int) : Prop :=
  ∃ ao cap, v = .slice ao xs.length cap ∧ xs.length ≤ cap ∧ cap ≤ maxLen ∧
    ∀ i, i < xs.length → ∃ b o, ao = some ⟨b, o, none⟩ ∧ b < w.heap.size ∧ w.cell? ⟨b, o + i, none⟩ = some (.int K (xs[i]?.getD 0))

theorem Sl.below {K : IntKind} {w w' : World} {v : Value} {xs : List Int} (h : Sl K w v xs) (hb : Below w.heap.size w w') : Sl K w' v xs := by
  obtain ⟨ao, cap, rfl, hc, hm, hx⟩ := h
  refine ⟨ao, cap, rfl, hc, hm, fun i hi => ?_⟩
  obtain ⟨b, o, e, hl, hcell⟩ := hx i hi
  exact ⟨b, o, e, Nat.lt_of_lt_of_le hl hb.size, (hb.cell (p := ⟨b, o + i, none⟩) hl).trans hcell⟩
theorem Sl.nil (K : IntKind) (w : World) : Sl K w (.slice none 0 0) [] :=
  ⟨none, 0, rfl, Nat.le_refl _, Nat.zero_le _, fun i hi => absurd hi (Nat.not_lt_zero _)⟩
/-- The call returns a slice of its own that holds xs; of what was there nothing has turned. -/
def RetSl (K : IntKind) (w : World) (xs : List Int) (e : Ending) (w' : World) : Prop := Below w.heap.size w w' ∧ ∃ v', e = .returned v' ∧ Sl K w' v' xs ∧ ∀ k, v'.ownBlock = some k → w.heap.size ≤ k
/-- v lies in a block from B on, or has none. -/
def Frm (B : Nat) (v : Value) : Prop := ∀ k, v.ownBlock = some k → B ≤ k
theorem Frm.nil (B : Nat) : Frm B (.slice none 0 0) := fun k h => by simp [Value.ownBlock] at h
theorem Frm.mk {B b o n c : Nat} (h : B ≤ b) : Frm B (.slice (some ⟨b, o, none⟩) n c) := fun k hk => by simp [Value.ownBlock] at hk; omega
theorem Frm.of {B : Nat} {v v' : Value} (h : Frm B v) (hv : ∀ k, v'.ownBlock = some k → v.ownBlock = some k) : Frm B v' := fun k hk => h k (hv k hk)
theorem Frm.mono {B B' : Nat} {v : Value} (h : Frm B v) (hB : B' ≤ B) : Frm B' v := fun k hk => Nat.le_trans hB (h k hk)
def RetSame (K : IntKind) (w : World) (v : Value) (xs : List Int) (e : Ending) (w' : World) : Prop := w = w' ∧ ∃ v', e = .returned v' ∧ Sl K w v' xs ∧ ∀ k, v'.ownBlock = some k → v.ownBlock = some k
end Go.Proofs.YtfhhnfpapgfnmaaGreat

set_option linter.unusedVariables false
set_option linter.unusedSimpArgs false
namespace Go.Proofs.YtfhhnfpapgfnmaaGreat
open Go Go.RowKit

/-- Block g is a row of numbers of kind K (element type E), wholly xs. -/
def Row (E : TypeId) (K : IntKind) (w : World) (g : Nat) (xs : List Int) : Prop := w.heap[g]? = some (.cells (xs.map (Value.int K)).toArray E (0, 0))
section
variable {E : TypeId} {K : IntKind} {w w' : World} {g : Nat} {xs : List Int}
theorem Row.lt (h : Row E K w g xs) : g < w.heap.size := (Array.getElem?_eq_some_iff.1 h).1
theorem Row.cell (h : Row E K w g xs) {i : Nat} (hi : i < xs.length) : w.cell? ⟨g, i, none⟩ = some (.int K (xs[i]?.getD 0)) := by
  rw [cell_of_row w g i _ E (0, 0) h]; simp [hi]
theorem Row.free (h : Row E K w g xs) (i : Nat) : w.frozen? ⟨g, i, none⟩ = false := frozen_of_row w g i _ E h
theorem Row.set (h : Row E K w g xs) (i : Nat) (x : Int) : Row E K (w.setCell ⟨g, i, none⟩ (.int K x)) g (xs.set i x) := by
  have := heap_setCell_same w g i _ E (.int K x) h
  unfold Row
  rw [this]
  congr 1
  apply congrArg (fun a => Obj.cells a E (0, 0))
  simp [List.map_set]
theorem Row.keep (h : Row E K w g xs) (he : w'.heap[g]? = w.heap[g]?) : Row E K w' g xs := he.trans h
theorem Row.below (h : Row E K w g xs) (hb : Below w.heap.size w w') : Row E K w' g xs := (hb.block g h.lt).trans h
theorem Row.drew (h : Row E K w g xs) : Row E K w.drew g xs := h
theorem Row.alloc (h : Row E K w g xs) (o : Obj) : Row E K (w.alloc o) g xs := (heap_alloc_old w o h.lt).trans h
theorem Row.setOther (h : Row E K w g xs) {a : Addr} (v : Value) (hne : a.block ≠ g) : Row E K (w.setCell a v) g xs := (heap_setCell_other w a g v (fun e => hne e.symm)).trans h
/-- The block of a slice that is not empty. -/
def live : Value → Option Nat
  | .slice (some a) n _ => if n = 0 then none else some a.block
  | _ => none
theorem live_own {v : Value} {k : Nat} (h : live v = some k) : v.ownBlock = some k := by
  unfold live at h
  split at h
  · split at h
    · cases h
    · exact h
  · cases h
theorem Sl.live_lt {v : Value} (h : Sl K w v xs) {k : Nat} (hk : live v = some k) : k < w.heap.size := by
  obtain ⟨ao, cap, rfl, hc, hm, hx⟩ := h
  by_cases h0 : 0 < xs.length
  · obtain ⟨b, o, rfl, hb, _⟩ := hx 0 h0
    have := live_own hk
    simp [Value.ownBlock] at this
    omega
  · have : xs.length = 0 := by omega
    rw [this] at hk
    cases ao <;> simp [live] at hk
theorem Sl.kept {v : Value} {row : Option Nat} (h : Sl K w v xs) (hg : w.grownBy w' row) (hne : ∀ k, live v = some k → row ≠ some k) : Sl K w' v xs := by
  obtain ⟨ao, cap, rfl, hc, hm, hx⟩ := h
  refine ⟨ao, cap, rfl, hc, hm, fun i hi => ?_⟩
  obtain ⟨b, o, rfl, hl, hcell⟩ := hx i hi
  exact ⟨b, o, rfl, Nat.lt_of_lt_of_le hl hg.size, hg.cell hcell (fun e => hne b (by simp only [live]; rw [if_neg (by omega)]) e.symm)⟩
theorem Row.new (w : World) (xs : List Int) : Row E K (w.alloc (.cells (xs.map (Value.int K)).toArray E)) w.heap.size xs := heap_alloc_new w _
theorem Row.sl (h : Row E K w g xs) {o n cap : Nat} (hn : o + n ≤ xs.length) (hc : n ≤ cap) (hm : cap ≤ maxLen) : Sl K w (.slice (some ⟨g, o, none⟩) n cap) ((xs.drop o).take n) := by
  have e : ((xs.drop o).take n).length = n := by simp; omega
  refine ⟨_, cap, by rw [e], by rw [e]; exact hc, hm, fun i hi => ?_⟩
  have hi' : i < n := by rw [e] at hi; exact hi
  refine ⟨g, o, rfl, h.lt, ?_⟩
  rw [h.cell (by omega), List.getElem?_take, if_pos hi', List.getElem?_drop]
theorem Row.slAll (h : Row E K w g xs) {n cap : Nat} (hn : n = xs.length) (hc : n ≤ cap) (hm : cap ≤ maxLen) : Sl K w (.slice (some ⟨g, 0, none⟩) n cap) xs := by
  have := h.sl (o := 0) (n := n) (cap := cap) (by omega) hc hm
  simpa [hn] using this
end

/-- make([]T, n): a new row of zeros. -/
theorem wpList_make_zeros {P : Program} (w : World) {ops : Array Oper} {rest : List Oper} {o : Oper} {a : Act} {Q : Exit → Act → World → Prop}
    (hg : o.guard = none) (l c : Operand) (t : TypeId) (hop : o.op = Op.makeSlice t l c)
    (e : TypeId) (K : IntKind) (h1 : P.underlying t = some (.slice e)) (h2 : (P.info? e).map (fun i => (i.zero, i.size, i.bytes)) = some (some (.int K 0), 1, 8))
    (L C : Int) (n : Nat) (hl : a.eval l = .int .i64 L) (hc : a.eval c = .int .i64 C) (hL : L = (n : Int)) (hC : C = (n : Int)) (b2 : 8 * n ≤ 281474976710656)
    (hK : ∀ w', Row e K w' w.heap.size (List.replicate n 0) → Below w.heap.size w w' → wpList P ops Q rest (a.put o.dst (.slice (some ⟨w.heap.size, 0, none⟩) n n)) w') :
    wpList P ops Q (o :: rest) a w := by
  refine wpList_plain hg fun K' hK' => ?_
  obtain ⟨i, hi, hz, hs, hb⟩ := info_parts h2
  have hrun := run_make (P := P) w t e i (.int K 0) h1 hi hz .i64 .i64 n n (by omega) (Int.le_refl _) (by rw [hb]; omega) (by omega)
  subst hL
  subst hC
  unfold Oper.wp
  simp only [execOp, hop, hl, hc]
  simp [hrun, Result.andThen]
  refine hK' _ _ ?_
  refine hK _ ?_ ((Below.refl _ _).alloc (Nat.le_refl _) _)
  have hm : madeCells (Value.cells (.int K 0)) (n * i.size) = ((List.replicate n (0 : Int)).map (Value.int K)).toArray := by
    rw [hs, Nat.mul_one]
    apply Array.toList_inj.1
    rw [show Value.cells (.int K 0) = #[.int K 0] from rfl, toList_madeCells_one]
    simp
  rw [hm]
  exact Row.new w _
end Go.Proofs.YtfhhnfpapgfnmaaGreat

set_option linter.unusedVariables false
set_option linter.unusedSimpArgs false
namespace Go.Proofs.YtfhhnfpapgfnmaaGreat
open Go Go.RowKit
/-- The base of the words. -/
abbrev BW : Int := 18446744073709551616
theorem wfD {xs : List Int} (h : Dg.Wf BW xs) (i : Nat) : 0 ≤ xs[i]?.getD 0 ∧ xs[i]?.getD 0 < 18446744073709551616 := h.getD (by decide) i
theorem info_u64 : (Tryz.prog.info? 62).map (fun i => (i.zero, i.size, i.bytes)) = some (some (.int .u64 0), 1, 8) := by kernel_rfl

/-- math/bits.Add64 as the model runs it. -/
theorem add64 (x y c : Int) (hx : 0 ≤ x) (hx1 : x < 18446744073709551616) (hy : 0 ≤ y) (hy1 : y < 18446744073709551616) (hc0 : 0 ≤ c) (hc : c ≤ 1) :
    ∃ s k : Int, (∀ w : World, (callFunc 65 #[.int .u64 x, .int .u64 y, .int .u64 c]).run Tryz.prog w = .ok (.value (.tuple #[.int .u64 s, .int .u64 k])) w) ∧
      0 ≤ s ∧ s < 18446744073709551616 ∧ 0 ≤ k ∧ k ≤ 1 ∧ x + y + c = s + 18446744073709551616 * k := by
  refine ⟨(x + y + c) % 18446744073709551616, (x + y + c) / 18446744073709551616, fun w => ?_, by omega, by omega, by omega, by omega, by omega⟩
  rw [run_callFunc_extern Tryz.func65 (by kernel_rfl) (by kernel_rfl) (by kernel_rfl) (e := add64Entry) (by kernel_rfl), run_add64 x y c hx hy hc0 hc]
  rfl

/-- The model's entry for math/bits.Sub64. -/
def sub64Entry : Array Value → Sem Value := fun args => do
  let (x, y, b) ← Extern.MathBitsCarry.three "Sub64" args
  pure (Extern.MathBitsCarry.pair ((x + Extern.MathBitsCarry.m64 - y - b) % Extern.MathBitsCarry.m64) (if x < y + b then 1 else 0))
theorem run_sub64 {P : Program} (x y b : Nat) (hb : b ≤ 1) (w : World) :
    (sub64Entry #[.int .u64 x, .int .u64 y, .int .u64 b]).run P w =
      .ok (.tuple #[.int .u64 (((x + 18446744073709551616 - y - b) % 18446744073709551616 : Nat) : Int), .int .u64 ((if x < y + b then 1 else 0 : Nat) : Int)]) w := by
  have : b = 0 ∨ b = 1 := by omega
  rcases this with rfl | rfl <;> rfl
theorem sub64 (x y c : Int) (hx : 0 ≤ x) (hx1 : x < 18446744073709551616) (hy : 0 ≤ y) (hy1 : y < 18446744073709551616) (hc0 : 0 ≤ c) (hc : c ≤ 1) :
    ∃ s k : Int, (∀ w : World, (callFunc 67 #[.int .u64 x, .int .u64 y, .int .u64 c]).run Tryz.prog w = .ok (.value (.tuple #[.int .u64 s, .int .u64 k])) w) ∧
      0 ≤ s ∧ s < 18446744073709551616 ∧ 0 ≤ k ∧ k ≤ 1 ∧ x - y - c = s - 18446744073709551616 * k := by
  obtain ⟨x, rfl⟩ := Int.eq_ofNat_of_zero_le hx
  obtain ⟨y, rfl⟩ := Int.eq_ofNat_of_zero_le hy
  obtain ⟨c, rfl⟩ := Int.eq_ofNat_of_zero_le hc0
  refine ⟨((x + 18446744073709551616 - y - c) % 18446744073709551616 : Nat), ((if x < y + c then 1 else 0 : Nat) : Int), fun w => ?_, by omega, by omega, by split <;> omega, by split <;> omega, by split <;> omega⟩
  rw [run_callFunc_extern Tryz.func67 (by kernel_rfl) (by kernel_rfl) (by kernel_rfl) (e := sub64Entry) (by kernel_rfl), run_sub64 x y c (by omega)]
  rfl

set_option maxHeartbeats 400000 in
theorem wordAt_in (b o n cap : Nat) (k : Nat) (x : Int) (w : World) (hk : k < n) (hc : w.cell? ⟨b, o + k, none⟩ = some (.int .u64 x)) :
    Calls Tryz.prog 66 #[.slice (some ⟨b, o, none⟩) n cap, .int .i64 k] w fun e w' => e = .returned (.int .u64 x) ∧ w = w' := by
  go_enter Tryz.func66, Tryz.ntmps66
  go_wp2
  go_ret
  exact ⟨rfl, rfl⟩
set_option maxHeartbeats 400000 in
theorem wordAt_out (ao : Option Addr) (n cap : Nat) (k : Nat) (w : World) (hk : n ≤ k) :
    Calls Tryz.prog 66 #[.slice ao n cap, .int .i64 k] w fun e w' => e = .returned (.int .u64 0) ∧ w = w' := by
  go_enter Tryz.func66, Tryz.ntmps66
  go_wp2
  go_ret
  exact ⟨rfl, rfl⟩
theorem wordAt_any {v : Value} {xs : List Int} {w : World} (h : Sl .u64 w v xs) (k : Nat) (x : Int) (hx : Hid (x = xs[k]?.getD 0)) :
    Calls Tryz.prog 66 #[v, .int .i64 k] w fun e w' => e = .returned (.int .u64 x) ∧ w = w' := by
  obtain ⟨ao, cap, rfl, hcap, hmax, hc⟩ := h
  by_cases hk : k < xs.length
  · obtain ⟨b, o, rfl, hb, hcell⟩ := hc k hk
    rw [← hx.out] at hcell
    exact wordAt_in b o _ cap k x w hk hcell
  · have : x = 0 := by rw [hx.out]; simp [hk]
    subst this
    exact wordAt_out ao _ cap k w (by omega)
end Go.Proofs.YtfhhnfpapgfnmaaGreat

set_option linter.unusedVariables false
set_option linter.unusedSimpArgs false
namespace Go.Proofs.YtfhhnfpapgfnmaaGreat
open Go Go.RowKit
theorem Sl.cut_of {K : IntKind} {w : World} {ao : Option Addr} {xs : List Int} {k : Nat} (hk : k ≤ xs.length) (hm : xs.length ≤ maxLen)
    (hx : ∀ i, i < xs.length → ∃ b o, ao = some ⟨b, o, none⟩ ∧ b < w.heap.size ∧ w.cell? ⟨b, o + i, none⟩ = some (.int K (xs[i]?.getD 0))) : Sl K w (.slice ao k k) (xs.take k) := by
  refine ⟨ao, k, by simp [Nat.min_eq_left hk], by simp [Nat.min_eq_left hk], Nat.le_trans hk hm, fun i hi => ?_⟩
  have hi' : i < k := by simpa [Nat.min_eq_left hk] using hi
  obtain ⟨b, o, e, hl, hcell⟩ := hx i (by omega)
  exact ⟨b, o, e, hl, by rw [hcell, List.getElem?_take, if_pos hi']⟩
set_option maxHeartbeats 400000 in
theorem cut_any (v : Value) (xs : List Int) (w : World) (h : Sl .u64 w v xs) :
    Calls Tryz.prog 58 #[v] w (RetSame .u64 w v (Dg.cut xs)) := by
  obtain ⟨ao, cap, rfl, hcap, hmax, hc⟩ := h
  have hmax' := hmax
  unfold maxLen at hmax
  go_enter Tryz.func58, Tryz.ntmps58
  go_wp2
  go_loop [3] (fun n => ∃ k : Nat, k ≤ xs.length ∧ n = .int .i64 k ∧ Hid (∀ i, k ≤ i → xs[i]?.getD 0 = 0)) (fun n => (intOf n).toNat)
  case atStart => exact ⟨xs.length, Nat.le_refl _, rfl, fun i hi => by simp [hi]⟩
  case round =>
    obtain ⟨k, hk, rfl, hz⟩ := hrel
    by_cases h0 : 0 < k
    · obtain ⟨b, o, rfl, hb, hcell⟩ := hc (k-1) (by omega)
      obtain ⟨k, rfl⟩ : ∃ j, k = j+1 := ⟨k - 1, by omega⟩
      obtain ⟨x, hx⟩ : ∃ x, x = xs[k]?.getD 0 := ⟨_, rfl⟩
      simp only [Nat.add_sub_cancel] at hcell
      rw [← hx] at hcell
      have HX := Lib.hid hx
      clear hx
      go_wp2
      · have h1 : (x == 0) = true := by assumption
        refine ⟨⟨k, by omega, rfl, fun i hi => ?_⟩, by simp [intOf]⟩
        by_cases e : i = k
        · rw [e, ← HX.out]; simpa using h1
        · exact hz.out i (by omega)
      · have h1 : (x == 0) = false := by assumption
        go_ret
        refine ⟨rfl, _, rfl, ?_⟩
        rw [Dg.cut_eq xs (k + 1) hz.out (Or.inr (by simpa [← HX.out] using h1))]
        exact ⟨Sl.cut_of hk (Nat.le_trans hcap hmax') hc, fun k h => h⟩
    · obtain rfl : k = 0 := by omega
      go_wp2
      go_ret
      refine ⟨rfl, _, rfl, ?_⟩
      rw [Dg.cut_eq xs 0 hz.out (Or.inl rfl)]
      exact ⟨Sl.nil _ _, fun k h => by simp [Value.ownBlock] at h⟩
end Go.Proofs.YtfhhnfpapgfnmaaGreat

set_option linter.unusedVariables false
set_option linter.unusedSimpArgs false
namespace Go.Proofs.YtfhhnfpapgfnmaaGreat
open Go Go.RowKit

/-- The slice value v holds the number n, in at most L words. -/
def Num (L : Nat) (w : World) (v : Value) (n : Int) : Prop := ∃ xs, Sl .u64 w v xs ∧ Dg.Wf BW xs ∧ Dg.Nz xs ∧ Dg.val BW xs = n ∧ xs.length ≤ L
/-- The call returns the number n, in at most L words; of what was there nothing has turned. -/
def RetNum (L : Nat) (w : World) (n : Int) (e : Ending) (w' : World) : Prop := Below w.heap.size w w' ∧ ∃ v', e = .returned v' ∧ Num L w' v' n ∧ Frm w.heap.size v'
theorem Num.below {L : Nat} {w w' : World} {v : Value} {n : Int} (h : Num L w v n) (hb : Below w.heap.size w w') : Num L w' v n :=
  let ⟨xs, h1, h2⟩ := h; ⟨xs, h1.below hb, h2⟩
theorem Num.kept {L : Nat} {w w' : World} {v : Value} {n : Int} {row : Option Nat} (h : Num L w v n) (hg : w.grownBy w' row) (hne : ∀ k, live v = some k → row ≠ some k) : Num L w' v n :=
  let ⟨xs, h1, h2⟩ := h; ⟨xs, h1.kept hg hne, h2⟩
theorem Num.mono {L L' : Nat} {w : World} {v : Value} {n : Int} (h : Num L w v n) (hL : L ≤ L') : Num L' w v n :=
  let ⟨xs, h1, h2, h3, h4, h5⟩ := h; ⟨xs, h1, h2, h3, h4, Nat.le_trans h5 hL⟩

theorem cut_num {v : Value} {xs : List Int} {w : World} (h : Sl .u64 w v xs) (hw : Dg.Wf BW xs) :
    Calls Tryz.prog 58 #[v] w fun e w' => ∃ v', e = .returned v' ∧ w = w' ∧ Num xs.length w v' (Dg.val BW xs) ∧ ∀ k, v'.ownBlock = some k → v.ownBlock = some k :=
  (cut_any v xs w h).mono fun e w' ⟨hw', v', he, hs, ho⟩ => ⟨v', he, hw', ⟨Dg.cut xs, hs, hw.cut, Dg.nz_cut xs, Dg.val_cut BW xs, Dg.cut_len xs⟩, ho⟩

/-- How far the sum of the loop has come. -/
def SumAt (xs ys zs : List Int) (k : Nat) (c : Int) : Prop := zs.length = xs.length + 1 ∧ Dg.Wf BW zs ∧ 0 ≤ c ∧ c ≤ 1 ∧
  Dg.val BW (zs.take k) + c * BW ^ k = Dg.val BW (xs.take k) + Dg.val BW (ys.take k) ∧ ∀ i, k ≤ i → zs[i]?.getD 0 = 0
theorem SumAt.start (xs ys : List Int) : SumAt xs ys (List.replicate (xs.length + 1) 0) 0 0 :=
  ⟨by simp, Dg.Wf.zeros (by decide) _, by decide, by decide, by simp [Dg.val], fun i _ => by simp [List.getElem?_replicate]; split <;> rfl⟩
theorem SumAt.next {xs ys zs : List Int} {k : Nat} {c x y s d : Int} (h : SumAt xs ys zs k c) (hk : k < xs.length) (hx : x = xs[k]?.getD 0) (hy : y = ys[k]?.getD 0)
    (s0 : 0 ≤ s) (s1 : s < BW) (d0 : 0 ≤ d) (d1 : d ≤ 1) (he : x + y + c = s + BW * d) : SumAt xs ys (zs.set k s) (k + 1) d := by
  obtain ⟨hl, hw, c0, c1, hv, hz⟩ := h
  refine ⟨by simpa using hl, hw.set k s0 s1, d0, d1, ?_, fun i hi => by rw [List.getElem?_set_ne (by omega)]; exact hz i (by omega)⟩
  rw [Dg.take_set_succ zs k s (by omega), Dg.val_append, Dg.val_one, Dg.val_take_succD, Dg.val_take_succD, ← hx, ← hy, Int.pow_succ]
  have : (zs.take k).length = k := by simp; omega
  rw [this]
  exact Dg.step_sum hv he
theorem SumAt.done {xs ys zs : List Int} {c : Int} (h : SumAt xs ys zs xs.length c) (hy : ys.length ≤ xs.length) :
    Dg.Wf BW (zs.set xs.length c) ∧ Dg.val BW (zs.set xs.length c) = Dg.val BW xs + Dg.val BW ys := by
  obtain ⟨hl, hw, c0, c1, hv, hz⟩ := h
  refine ⟨hw.set _ c0 (by unfold BW; omega), ?_⟩
  rw [Dg.set_last zs _ c hl, Dg.val_append, Dg.val_one]
  have : (zs.take xs.length).length = xs.length := by simp; omega
  rw [this]
  rw [List.take_of_length_le (Nat.le_refl _), List.take_of_length_le hy] at hv
  rw [← hv, Int.mul_comm]
end Go.Proofs.YtfhhnfpapgfnmaaGreat

set_option linter.unusedVariables false
set_option linter.unusedSimpArgs false
namespace Go.Proofs.YtfhhnfpapgfnmaaGreat
open Go Go.RowKit
theorem tquietSame {P : Program} {f : FuncId} {args : Array Value} {w : World} {n : Nat} {v : Value}
    (h : Calls P f args (w.drewN n) fun e w' => e = .returned v ∧ w.drewN n = w') : Calls P f args (w.drewN n) fun e w'' => e = .returned v ∧ ∃ m, w'' = w.drewN m :=
  h.mono fun _ _ ⟨he, hm⟩ => ⟨he, n, hm.symm⟩
set_option maxHeartbeats 400000 in
theorem cmpInt_any (x y : Int) (w : World) :
    Calls Tryz.prog 85 #[.int .i64 x, .int .i64 y] w fun e w' => e = .returned (.int .i64 (Dg.sg x y)) ∧ w = w' := by
  rcases Int.lt_trichotomy x y with h | rfl | h
  · go_enter Tryz.func85, Tryz.ntmps85
    go_wp2
    go_ret
    exact ⟨by rw [Dg.sg_lt h]; rfl, rfl⟩
  · go_enter Tryz.func85, Tryz.ntmps85
    go_wp2
    go_ret
    exact ⟨by rw [Dg.sg_eq]; rfl, rfl⟩
  · go_enter Tryz.func85, Tryz.ntmps85
    go_wp2
    go_ret
    exact ⟨by rw [Dg.sg_gt h]; rfl, rfl⟩
set_option maxHeartbeats 400000 in
theorem cmpWord_any (x y : Int) (w : World) :
    Calls Tryz.prog 86 #[.int .u64 x, .int .u64 y] w fun e w' => e = .returned (.int .i64 (Dg.sg x y)) ∧ w = w' := by
  rcases Int.lt_trichotomy x y with h | rfl | h
  · go_enter Tryz.func86, Tryz.ntmps86
    go_wp2
    go_ret
    exact ⟨by rw [Dg.sg_lt h]; rfl, rfl⟩
  · go_enter Tryz.func86, Tryz.ntmps86
    go_wp2
    go_ret
    exact ⟨by rw [Dg.sg_eq]; rfl, rfl⟩
  · go_enter Tryz.func86, Tryz.ntmps86
    go_wp2
    go_ret
    exact ⟨by rw [Dg.sg_gt h]; rfl, rfl⟩
/-- The call returns v, and of what was there nothing has turned. -/
def RetV (w : World) (v : Value) (e : Ending) (w' : World) : Prop := Below w.heap.size w w' ∧ e = .returned v
set_option maxHeartbeats 1000000 in
theorem compare_eqlen {va vb : Value} {xs ys : List Int} {w : World} (ha : Sl .u64 w va xs) (hb : Sl .u64 w vb ys) (hwa : Dg.Wf BW xs) (hwb : Dg.Wf BW ys) (hl : ys.length = xs.length) :
    Calls Tryz.prog 59 #[va, vb] w (RetV w (.int .i64 (Dg.sg (Dg.val BW xs) (Dg.val BW ys)))) := by
  obtain ⟨ao, cap, rfl, hcap, hmax, hc⟩ := ha
  obtain ⟨bo, bcap, rfl, hbcap, hbmax, hbc⟩ := hb
  unfold maxLen at hmax hbmax
  rw [hl] at hbcap ⊢
  have HL := Lib.hid hl
  simp only [hl] at hbc
  clear hl
  have hz : (Dg.sg (xs.length : Int) xs.length) = 0 := Dg.sg_eq _
  go_enter Tryz.func59, Tryz.ntmps59
  go_wp2_with (go_at_call 85; refine (cmpInt_any _ _ _).mono ?_; rintro e w' ⟨rfl, rfl⟩)
  go_loopw [6] (fun i wr => ∃ (k : Nat) (j : Int), k ≤ xs.length ∧ Hid (j + 1 = k) ∧ i = .int .i64 j ∧ Hid (xs.drop k = ys.drop k) ∧ Below w.heap.size w wr) (fun i _ => (intOf i + 1).toNat)
  case atStart => exact ⟨xs.length, _, Nat.le_refl _, by show _ - (1 : Int) + 1 = _; omega, rfl, by show xs.drop xs.length = ys.drop xs.length; rw [← HL.out]; simp [HL.out], Below.refl _ _⟩
  case round =>
    obtain ⟨k, j, hk, hj, rfl, hd, hbl⟩ := hrel
    by_cases h0 : 0 < k
    · obtain ⟨k, rfl⟩ : ∃ j, k = j+1 := ⟨k - 1, by omega⟩
      obtain rfl : j = (k : Int) := by have := hj.out; omega
      clear hj
      obtain ⟨b, o, rfl, hbs, hcell⟩ := hc k (by omega)
      obtain ⟨b', o', rfl, hbs', hcell'⟩ := hbc k (by omega)
      obtain ⟨x, hx⟩ : ∃ x, x = xs[k]?.getD 0 := ⟨_, rfl⟩
      obtain ⟨y, hy⟩ : ∃ y, y = ys[k]?.getD 0 := ⟨_, rfl⟩
      rw [← hx] at hcell
      rw [← hy] at hcell'
      have HX := Lib.hid hx
      have HY := Lib.hid hy
      clear hx hy
      have hcl := (hbl.cell (p := ⟨b, o + k, none⟩) hbs).trans hcell
      have hcl' := (hbl.cell (p := ⟨b', o' + k, none⟩) hbs').trans hcell'
      clear hcell hcell' hc hbc
      have hbd : ∀ q, Below w.heap.size w (wr.drewN q) := fun q => ⟨hbl.os, hbl.tape, hbl.output, hbl.size, hbl.block⟩
      have hki : k < xs.length := by omega
      rcases Int.lt_trichotomy x y with h | h | h
      · have hs := Dg.sg_lt h
        go_wp2_with fail
        go_quiet ((go_at_call 86; exact tquietSame (cmpWord_any _ _ _)))
        go_wp2
        go_ret
        refine ⟨hbd _, ?_⟩
        rw [Dg.sg_lt (Dg.val_lt_at (by decide) hwa hwb HL.out.symm (k := k) (by omega) hd.out (by rw [← HX.out, ← HY.out]; exact h))]
        show Ending.returned (.int .i64 (Dg.sg x y)) = _
        rw [hs]
      · subst h
        have hs := Dg.sg_eq x
        go_wp2_with fail
        go_quiet ((go_at_call 86; exact tquietSame (cmpWord_any _ _ _)))
        go_wp2
        go_roundw
        case rel => exact ⟨k, (k : Int) - 1, by omega, by show _ - (1 : Int) + 1 = _; omega, rfl, Dg.drop_eq_at HL.out.symm hd.out (by rw [← HX.out, ← HY.out]), hbd _⟩
        case measure => simp [intOf] <;> omega
      · have hs := Dg.sg_gt h
        go_wp2_with fail
        go_quiet ((go_at_call 86; exact tquietSame (cmpWord_any _ _ _)))
        go_wp2
        go_ret
        refine ⟨hbd _, ?_⟩
        rw [Dg.sg_gt (Dg.val_lt_at (by decide) hwb hwa HL.out (k := k) (by have := HL.out; omega) hd.out.symm (by rw [← HX.out, ← HY.out]; exact h))]
        show Ending.returned (.int .i64 (Dg.sg x y)) = _
        rw [hs]
    · obtain rfl : k = 0 := by omega
      obtain rfl : j = -1 := by have := hj.out; omega
      have he : xs = ys := by simpa using hd.out
      have hs : Dg.sg (Dg.val BW xs) (Dg.val BW ys) = 0 := by rw [he]; exact Dg.sg_eq _
      have HS := Lib.hid hs
      clear hj hd he hs
      go_wp2
      go_ret
      exact ⟨hbl, by rw [HS.out]; rfl⟩
set_option maxHeartbeats 1000000 in
theorem compare_any {va vb : Value} {xs ys : List Int} {w : World} (ha : Sl .u64 w va xs) (hb : Sl .u64 w vb ys) (hwa : Dg.Wf BW xs) (hwb : Dg.Wf BW ys) (hna : Dg.Nz xs) (hnb : Dg.Nz ys) :
    Calls Tryz.prog 59 #[va, vb] w (RetV w (.int .i64 (Dg.sg (Dg.val BW xs) (Dg.val BW ys)))) := by
  rcases Nat.lt_trichotomy xs.length ys.length with h | h | h
  · have hs : Dg.sg (xs.length : Int) ys.length = -1 := Dg.sg_lt (by omega)
    have hv : Dg.sg (Dg.val BW xs) (Dg.val BW ys) = -1 := Dg.sg_lt (Dg.val_lt_of_len (by decide) hwa hwb hnb h)
    obtain ⟨ao, cap, rfl, hcap, hmax, hc⟩ := ha
    obtain ⟨bo, bcap, rfl, hbcap, hbmax, hbc⟩ := hb
    have HV := Lib.hid hv
    clear hv
    go_enter Tryz.func59, Tryz.ntmps59
    go_wp2_with (go_at_call 85; refine (cmpInt_any _ _ _).mono ?_; rintro e w' ⟨rfl, rfl⟩)
    go_ret
    exact ⟨Below.refl _ _, by rw [HV.out]; rfl⟩
  · exact compare_eqlen ha hb hwa hwb h.symm
  · have hs : Dg.sg (xs.length : Int) ys.length = 1 := Dg.sg_gt (by omega)
    have hv : Dg.sg (Dg.val BW xs) (Dg.val BW ys) = 1 := Dg.sg_gt (Dg.val_lt_of_len (by decide) hwb hwa hna h)
    obtain ⟨ao, cap, rfl, hcap, hmax, hc⟩ := ha
    obtain ⟨bo, bcap, rfl, hbcap, hbmax, hbc⟩ := hb
    have HV := Lib.hid hv
    clear hv
    go_enter Tryz.func59, Tryz.ntmps59
    go_wp2_with (go_at_call 85; refine (cmpInt_any _ _ _).mono ?_; rintro e w' ⟨rfl, rfl⟩)
    go_ret
    exact ⟨Below.refl _ _, by rw [HV.out]; rfl⟩
theorem compare_num {La Lb : Nat} {va vb : Value} {m n : Int} {w : World} (ha : Num La w va m) (hb : Num Lb w vb n) :
    Calls Tryz.prog 59 #[va, vb] w (RetV w (.int .i64 (Dg.sg m n))) := by
  obtain ⟨xs, h1, h2, h3, rfl, _⟩ := ha
  obtain ⟨ys, k1, k2, k3, rfl, _⟩ := hb
  exact compare_any h1 k1 h2 k2 h3 k3
end Go.Proofs.YtfhhnfpapgfnmaaGreat

set_option linter.unusedVariables false
set_option linter.unusedSimpArgs false
namespace Go.Proofs.YtfhhnfpapgfnmaaGreat
open Go Go.RowKit
def Two (x y : Int) (c : Int) (w : World) (e : Ending) (w' : World) : Prop := ∃ h l : Int, e = .returned (.tuple #[.int .u64 h, .int .u64 l]) ∧ w = w' ∧
  0 ≤ h ∧ h < 18446744073709551616 ∧ 0 ≤ l ∧ l < 18446744073709551616 ∧ x * y + c = h * 18446744073709551616 + l
theorem mul64 (x y : Int) (w : World) (hx : 0 ≤ x) (hx1 : x < 18446744073709551616) (hy : 0 ≤ y) (hy1 : y < 18446744073709551616) :
    Calls Tryz.prog 106 #[.int .u64 x, .int .u64 y] w (Two x y 0 w) := by
  obtain ⟨x, rfl⟩ := Int.eq_ofNat_of_zero_le hx
  obtain ⟨y, rfl⟩ := Int.eq_ofNat_of_zero_le hy
  refine (Go.Proofs.Tryz.bits_Mul64 x y (by omega) (by omega) w).mono fun e w' ⟨he, hw⟩ => ?_
  have hb := Dg.mul_bound (B := 18446744073709551616) hx hx1 hy hy1
  have hp : 0 ≤ (x : Int) * y := Int.mul_nonneg hx hy
  refine ⟨_, _, he, hw.symm, by omega, ?_, by omega, by omega, ?_⟩
  · have : (x * y : Nat) / 18446744073709551616 < 18446744073709551616 := by
      apply Nat.div_lt_of_lt_mul
      have : ((x * y : Nat) : Int) = x * y := Int.natCast_mul _ _
      omega
    omega
  · have e1 : ((x * y : Nat) : Int) = x * y := Int.natCast_mul _ _
    have := Nat.div_add_mod (x * y) 18446744073709551616
    omega
set_option maxHeartbeats 400000 in
theorem mulAdd (x y c : Int) (w : World) (hx : 0 ≤ x) (hx1 : x < 18446744073709551616) (hy : 0 ≤ y) (hy1 : y < 18446744073709551616) (hc : 0 ≤ c) (hc1 : c < 18446744073709551616) :
    Calls Tryz.prog 90 #[.int .u64 x, .int .u64 y, .int .u64 c] w (Two x y c w) := by
  have hbd := Dg.mul_bound (B := 18446744073709551616) hx hx1 hy hy1
  have HB := Lib.hid hbd
  clear hbd
  go_enter Tryz.func90, Tryz.ntmps90
  go_wp2_with fail
  refine (mul64 x y _ hx hx1 hy hy1).mono ?_
  rintro e w' ⟨h, l, rfl, rfl, h0, h1, l0, l1, hv⟩
  obtain ⟨s, k, hadd, s0, s1, k0, k1, hs⟩ := add64 l c 0 l0 l1 hc hc1 (by omega) (by omega)
  have hkb : h + k ≤ 18446744073709551615 := by have := HB.out; omega
  have HV := Lib.hid hv
  have HS := Lib.hid hs
  clear hv hs
  go_wp2
  go_ret2
  exact ⟨_, _, rfl, rfl, by omega, by omega, s0, s1, by have := HV.out; have := HS.out; omega⟩
end Go.Proofs.YtfhhnfpapgfnmaaGreat

set_option linter.unusedVariables false
set_option linter.unusedSimpArgs false
namespace Go.Proofs.YtfhhnfpapgfnmaaGreat
open Go Go.RowKit
theorem tgrowRefl (w : World) (r : Option Nat) : w.grownBy w r := ⟨rfl, rfl, rfl, Nat.le_refl _, fun _ _ _ => rfl⟩
theorem tgrowTrans {a b c : World} {r : Option Nat} (h : a.grownBy b r) (k : b.grownBy c r) : a.grownBy c r :=
  ⟨k.os.trans h.os, k.tape.trans h.tape, k.output.trans h.output, Nat.le_trans h.size k.size, fun i hi hne => (k.block i (Nat.lt_of_lt_of_le hi h.size) hne).trans (h.block i hi hne)⟩
theorem tgrowSet {w w' : World} {g : Nat} (h : w.grownBy w' (some g)) (i : Nat) (v : Value) : w.grownBy (w'.setCell ⟨g, i, none⟩ v) (some g) :=
  tgrowTrans h ⟨rfl, rfl, rfl, by simp [World.setCell], fun k _ hk => heap_setCell_other w' ⟨g, i, none⟩ k v (fun e => hk (by rw [e]))⟩
theorem tgrowBelow {w w' : World} {r : Option Nat} (h : Below w.heap.size w w') : w.grownBy w' r := ⟨h.os, h.tape, h.output, h.size, fun i hi _ => h.block i hi⟩
theorem tbelowGrow {w0 w w' : World} {g : Nat} (h : w.grownBy w' (some g)) (hb : Below w0.heap.size w0 w) (hg : w0.heap.size ≤ g) : Below w0.heap.size w0 w' :=
  hb.grown h hb.size (fun k hk => by cases hk; exact hg)
/-- How far addMultiple has come. -/
def AmAt (M us M' : List Int) (f : Int) (k : Nat) (c : Int) : Prop := M'.length = M.length ∧ Dg.Wf BW M' ∧ 0 ≤ c ∧ c < 18446744073709551616 ∧
  Dg.val BW (M'.take k) + c * BW ^ k = Dg.val BW (M.take k) + f * Dg.val BW (us.take k) ∧ ∀ i, k ≤ i → M'[i]?.getD 0 = M[i]?.getD 0
theorem AmAt.start {M : List Int} (hM : Dg.Wf BW M) (us : List Int) (f : Int) : AmAt M us M f 0 0 := ⟨rfl, hM, by decide, by decide, by simp [Dg.val], fun _ _ => rfl⟩
theorem AmAt.next {M us M' : List Int} {f : Int} {k : Nat} {c x m h l s d : Int} (H : AmAt M us M' f k c) (hk : k < M.length) (hx : x = us[k]?.getD 0) (hm : m = M'[k]?.getD 0)
    (he : x * f + c = h * 18446744073709551616 + l) (hs : m + l + 0 = s + 18446744073709551616 * d) (s0 : 0 ≤ s) (s1 : s < 18446744073709551616) (d0 : 0 ≤ h + d) (d1 : h + d < 18446744073709551616) :
    AmAt M us (M'.set k s) f (k + 1) (h + d) := by
  obtain ⟨hl, hw, c0, c1, hv, hz⟩ := H
  refine ⟨by simpa using hl, hw.set k s0 s1, d0, d1, ?_, fun i hi => by rw [List.getElem?_set_ne (by omega)]; exact hz i (by omega)⟩
  rw [Dg.take_set_succ M' k s (by omega), Dg.val_append, Dg.val_one, Dg.val_take_succD, Dg.val_take_succD, ← hx, ← hz k (Nat.le_refl _), ← hm, Int.pow_succ]
  have : (M'.take k).length = k := by simp; omega
  rw [this]
  exact Dg.step_mul hv he (by rw [Int.add_zero] at hs; exact hs)
theorem AmAt.done {M us M' : List Int} {f c : Int} (H : AmAt M us M' f us.length c) (hl : M.length = us.length) : Dg.val BW M' + c * BW ^ us.length = Dg.val BW M + f * Dg.val BW us := by
  obtain ⟨hl', hw, c0, c1, hv, hz⟩ := H
  rw [List.take_of_length_le (by omega), List.take_of_length_le (by omega), List.take_of_length_le (Nat.le_refl _)] at hv
  exact hv
/-- What addMultiple leaves. -/
def AmRet (w : World) (g : Nat) (P M S us : List Int) (f : Int) (e : Ending) (w' : World) : Prop :=
  ∃ (c : Int) (M' : List Int), e = .returned (.int .u64 c) ∧ Row 62 .u64 w' g (P ++ M' ++ S) ∧ w.grownBy w' (some g) ∧ M'.length = M.length ∧ Dg.Wf BW M' ∧ 0 ≤ c ∧ c < 18446744073709551616 ∧
    Dg.val BW M' + c * BW ^ us.length = Dg.val BW M + f * Dg.val BW us
set_option maxHeartbeats 1000000 in
theorem taddMultiple_any (g cap : Nat) (P M S us : List Int) (va : Value) (f : Int) (w0 w : World) (ha : Sl .u64 w0 va us) (hb0 : Below w0.heap.size w0 w) (hg : w0.heap.size ≤ g)
    (hr : Row 62 .u64 w g (P ++ M ++ S)) (hM : M.length = us.length) (hwM : Dg.Wf BW M) (hwa : Dg.Wf BW us) (hf : 0 ≤ f) (hf1 : f < 18446744073709551616) :
    Calls Tryz.prog 142 #[.slice (some ⟨g, P.length, none⟩) us.length cap, va, .int .u64 f] w (AmRet w g P M S us f) := by
  obtain ⟨ao, acap, rfl, hcap, hmax, hc⟩ := ha
  unfold maxLen at hmax
  have HM := Lib.hid hM
  clear hM
  go_enter Tryz.func142, Tryz.ntmps142
  go_wp2
  go_loopw [7, 15] (fun c i wr => ∃ (k : Nat) (cv : Int) (M' : List Int), k ≤ us.length ∧ i = .int .i64 k ∧ c = .int .u64 cv ∧ Hid (AmAt M us M' f k cv) ∧ Row 62 .u64 wr g (P ++ M' ++ S) ∧ w.grownBy wr (some g)) (fun _ i _ => us.length - (intOf i).toNat)
  case atStart => exact ⟨0, 0, M, Nat.zero_le _, rfl, rfl, AmAt.start hwM us f, hr, tgrowRefl _ _⟩
  case round =>
    obtain ⟨k, cv, M', hk, rfl, rfl, hat, hrr, hgr⟩ := hrel
    have hz0 : 0 ≤ cv := hat.out.2.2.1
    have hz1 : cv < 18446744073709551616 := hat.out.2.2.2.1
    by_cases hlt : k < us.length
    · have hMl : k < M'.length := by have := hat.out.1; have := HM.out; omega
      obtain ⟨b, o, rfl, hbs, hcell⟩ := hc k hlt
      obtain ⟨x, hx⟩ : ∃ x, x = us[k]?.getD 0 := ⟨_, rfl⟩
      obtain ⟨m, hm⟩ : ∃ m, m = M'[k]?.getD 0 := ⟨_, rfl⟩
      have hxb := wfD hwa k
      have hmb := wfD hat.out.2.1 k
      have hcl := ((tbelowGrow hgr hb0 hg).cell (p := ⟨b, o + k, none⟩) hbs).trans hcell
      have hcz := hrr.cell (i := P.length + k) (by simp; omega)
      rw [Dg.mid_get P M' S k hMl, ← hm] at hcz
      have hfz := hrr.free (P.length + k)
      rw [← hx] at hcl hxb
      rw [← hm] at hmb
      have HX := Lib.hid hx
      have HMM := Lib.hid hm
      clear hx hm hcell
      have hxf := Lib.hid (Dg.mul_bound (B := 18446744073709551616) hxb.1 hxb.2 hf hf1)
      go_wp2_with fail
      refine (mulAdd x f cv _ hxb.1 hxb.2 hf hf1 hz0 hz1).mono ?_
      rintro e w' ⟨h, l, rfl, rfl, h0, h1, l0, l1, hv⟩
      obtain ⟨s, d, hadd, s0, s1, d0, d1, hs⟩ := add64 m l 0 hmb.1 hmb.2 l0 l1 (by omega) (by omega)
      have hkb : h + d ≤ 18446744073709551615 := by have := hxf.out; omega
      have HV := Lib.hid hv
      have HS := Lib.hid hs
      clear hv hs
      go_wp2
      have hrs := hrr.set (P.length + k) s
      rw [Dg.mid_set P M' S k s hMl] at hrs
      go_roundw
      case rel => exact ⟨k + 1, h + d, M'.set k s, by omega, by go_num, rfl, hat.out.next (by have := HM.out; omega) HX.out HMM.out HV.out HS.out s0 s1 (by omega) (by omega), hrs, tgrowSet hgr _ _⟩
      case measure => simp [intOf] <;> omega
    · obtain rfl : k = us.length := by omega
      go_wp2
      go_ret
      exact ⟨_, M', rfl, hrr, hgr, hat.out.1, hat.out.2.1, hz0, hz1, hat.out.done HM.out⟩
end Go.Proofs.YtfhhnfpapgfnmaaGreat

set_option linter.unusedVariables false
set_option linter.unusedSimpArgs false
namespace Go.Proofs.YtfhhnfpapgfnmaaGreat
open Go Go.RowKit
set_option maxHeartbeats 1000000 in
theorem sum_core (sw : Bool) (va vb : Value) (xs ys : List Int) (w : World) (ha : Sl .u64 w va xs) (hb : Sl .u64 w vb ys) (hwa : Dg.Wf BW xs) (hwb : Dg.Wf BW ys)
    (hle : ys.length ≤ xs.length) (hlt : sw = true → ys.length < xs.length) (hmx : xs.length ≤ 17000000000000) :
    Calls Tryz.prog 43 (if sw then #[vb, va] else #[va, vb]) w (RetNum (xs.length + 1) w (Dg.val BW xs + Dg.val BW ys)) := by
  have hb' := hb
  have ha' := ha
  obtain ⟨ao, cap, rfl, hcap, hmax, hc⟩ := ha
  obtain ⟨bo, bcap, rfl, hbcap, hbmax, hbc⟩ := hb
  unfold maxLen at hmax hbmax
  cases sw
  all_goals
    simp only [if_true, if_false, Bool.false_eq_true, forall_const] at hlt ⊢
    go_enter Tryz.func43, Tryz.ntmps43
    go_wp2_with (at_make; refine wpList_make_zeros _ rfl _ _ 22 rfl 62 .u64 Tryz.underlying22 info_u64 _ _ (xs.length + 1) rfl rfl (by omega) (by omega) (by omega) ?_)
  all_goals
    intro w1 hrow hbel
    go_wp2
    go_loopw [6, 22] (fun c i wr => ∃ (k : Nat) (cv : Int) (zs : List Int), k ≤ xs.length ∧ i = .int .i64 k ∧ c = .int .u64 cv ∧ Hid (SumAt xs ys zs k cv) ∧ Row 62 .u64 wr w.heap.size zs ∧ Below w.heap.size w wr) (fun _ i _ => xs.length - (intOf i).toNat)
    case atStart => exact ⟨0, 0, _, Nat.zero_le _, rfl, rfl, SumAt.start xs ys, hrow, hbel⟩
    case round =>
      obtain ⟨k, cv, zs, hk, rfl, rfl, hat, hr, hbl⟩ := hrel
      have hzl : zs.length = xs.length + 1 := hat.out.1
      have hz0 : 0 ≤ cv := hat.out.2.2.1
      have hz1 : cv ≤ 1 := hat.out.2.2.2.1
      clear hrow hbel
      by_cases hlt' : k < xs.length
      · obtain ⟨b, o, rfl, hbs, hcell⟩ := hc k hlt'
        obtain ⟨x, hx⟩ : ∃ x, x = xs[k]?.getD 0 := ⟨_, rfl⟩
        obtain ⟨y, hy⟩ : ∃ y, y = ys[k]?.getD 0 := ⟨_, rfl⟩
        have hxb := wfD hwa k
        have hyb := wfD hwb k
        rw [← hx] at hcell hxb
        rw [← hy] at hyb
        have HX := Lib.hid hx
        have HY := Lib.hid hy
        clear hx hy
        have hcl := (hbl.cell (p := ⟨b, o + k, none⟩) hbs).trans hcell
        have hsl := hb'.below hbl
        have hcz := hr.cell (i := k) (by omega)
        have hfz := hr.free k
        obtain ⟨s, d, hadd, hs0, hs1, hd0, hd1, hsd⟩ := add64 x y cv hxb.1 hxb.2 hyb.1 hyb.2 hz0 hz1
        have HSD := Lib.hid hsd
        clear hsd hcell
        go_wp2_with (go_at_call 66; refine (wordAt_any hsl k y HY).mono ?_; rintro e w' ⟨rfl, rfl⟩)
        go_roundw
        case rel => exact ⟨k + 1, d, zs.set k s, by omega, by go_num, rfl, hat.out.next hlt' HX.out HY.out hs0 hs1 hd0 hd1 HSD.out, hr.set k s, hbl.setCell (Nat.le_refl _) _⟩
        case measure => simp [intOf] <;> omega
      · obtain rfl : k = xs.length := by omega
        have hcz := hr.cell (i := xs.length) (by omega)
        have hfz := hr.free xs.length
        obtain ⟨hdw, hdv⟩ := hat.out.done hle
        have hrs := hr.set xs.length cv
        have hlen : (zs.set xs.length cv).length = xs.length + 1 := by simpa using hzl
        have hSl := hrs.slAll (n := xs.length + 1) (cap := xs.length + 1) hlen.symm (Nat.le_refl _) (by unfold maxLen; omega)
        have hbl2 : Below w.heap.size w (wr.setCell ⟨w.heap.size, xs.length, none⟩ (.int .u64 cv)) := hbl.setCell (Nat.le_refl _) _
        have HL := Lib.hid hlen
        have HV := Lib.hid hdv
        clear hlen hdv hat hzl
        go_wp2_with (go_at_call 58; refine (cut_num hSl hdw).mono ?_; rintro e w' ⟨v', rfl, rfl, hn, hob⟩; have HOB := Lib.hid hob; clear hob)
        go_ret
        rw [HV.out, HL.out] at hn
        exact ⟨hbl2, _, rfl, hn, (Frm.mk (Nat.le_refl _)).of HOB.out⟩
end Go.Proofs.YtfhhnfpapgfnmaaGreat
