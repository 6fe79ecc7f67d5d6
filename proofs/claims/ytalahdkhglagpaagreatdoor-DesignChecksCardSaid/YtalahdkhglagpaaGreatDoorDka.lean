/-
  Plain facts: in how many blocks a point is, counted by pairs. No program.
-/
import Derived.Test.YtalahdkhglagpaaGreatDoorDs
import Derived.Test.YtalahdkhglagpaaGreatDoorDqb
set_option linter.unusedVariables false
set_option linter.unusedSimpArgs false
namespace Go.Proofs.YtalahdkhglagpaaGreatDoor
open Dsg Dqr
/-- The pairs of points, as places of the square. -/
def sqP (v : Nat) : List Nat := (List.range v).flatMap fun a => ((List.range v).drop (a + 1)).map fun b => a * v + b
theorem drop_range {v a b : Nat} : b ∈ (List.range v).drop (a + 1) ↔ a + 1 ≤ b ∧ b < v := by
  rw [List.mem_iff_getElem]
  simp only [List.length_drop, List.length_range, List.getElem_drop, List.getElem_range]
  constructor
  · rintro ⟨i, h, rfl⟩
    omega
  · rintro ⟨h1, h2⟩
    exact ⟨b - (a + 1), by omega, by omega⟩
theorem sqP_up (v : Nat) : (sqP v).Pairwise (· < ·) := by
  unfold sqP
  rw [List.pairwise_flatMap]
  refine ⟨fun a ha => ?_, ?_⟩
  · rw [List.pairwise_map]
    exact (List.pairwise_lt_range.sublist (List.drop_sublist _ _)).imp (fun h => by omega)
  · refine List.pairwise_lt_range.imp (fun {a a'} h x hx y hy => ?_)
    obtain ⟨b, hb, rfl⟩ := List.mem_map.1 hx
    obtain ⟨b', hb', rfl⟩ := List.mem_map.1 hy
    have h1 := drop_range.1 hb
    have h2 : (a + 1) * v ≤ a' * v := Nat.mul_le_mul_right v h
    rw [Nat.add_mul, Nat.one_mul] at h2
    omega
theorem sqP_mem {v a b : Nat} (h : a < b) (hb : b < v) : a * v + b ∈ sqP v :=
  List.mem_flatMap.2 ⟨a, List.mem_range.2 (by omega), List.mem_map.2 ⟨b, drop_range.2 ⟨h, hb⟩, rfl⟩⟩
theorem sqP_of {v t : Nat} (h : t ∈ sqP v) : ∃ a b, a < b ∧ b < v ∧ t = a * v + b := by
  obtain ⟨a, _, h2⟩ := List.mem_flatMap.1 h
  obtain ⟨b, hb, rfl⟩ := List.mem_map.1 h2
  obtain ⟨h3, h4⟩ := drop_range.1 hb
  exact ⟨a, b, h3, h4, rfl⟩
theorem tri_len {α β : Type} (n : Nat) (l : List α) (hl : l.length = n) (f : Nat → α → β) : ∀ m, m ≤ n → 2 * ((List.range m).flatMap fun a => (l.drop (a + 1)).map (f a)).length + m * m + m = 2 * (m * n)
  | 0, _ => by simp
  | m + 1, h => by
    have ih := tri_len n l hl f m (by omega)
    rw [List.range_succ, List.flatMap_append, List.length_append]
    simp only [List.flatMap_cons, List.flatMap_nil, List.append_nil, List.length_map, List.length_drop, hl]
    have e1 : (m + 1) * (m + 1) = m * m + 2 * m + 1 := by rw [Nat.add_mul, Nat.mul_add]; omega
    have e2 : (m + 1) * n = m * n + n := by rw [Nat.add_mul, Nat.one_mul]
    rw [e1, e2]
    omega
theorem sqP_len (v : Nat) : 2 * (sqP v).length + v * v + v = 2 * (v * v) := tri_len v (List.range v) List.length_range (fun a b => a * v + b) v (Nat.le_refl _)
theorem bl_len (v : Nat) (xs : List Int) : 2 * (bl v xs).length + xs.length * xs.length + xs.length = 2 * (xs.length * xs.length) := by
  have h := tri_len xs.length xs rfl (fun j => ix v (xs[j]?.getD 0)) xs.length (Nat.le_refl _)
  have e : bl v xs = (List.range xs.length).flatMap fun a => (xs.drop (a + 1)).map (ix v (xs[a]?.getD 0)) := by
    unfold bl blP
    simp
  rw [e]
  exact h
theorem bl_mem {v : Nat} {xs : List Int} (h : rsB v xs = true) {t : Nat} (ht : t ∈ bl v xs) : t ∈ sqP v := by
  obtain ⟨h1, h2⟩ := rsB_iff.1 h
  unfold bl blP at ht
  simp only [List.take_zero, List.map_nil, List.append_nil] at ht
  obtain ⟨j, hj, h3⟩ := List.mem_flatMap.1 ht
  obtain ⟨y, hy, rfl⟩ := List.mem_map.1 h3
  have hj := List.mem_range.1 hj
  obtain ⟨i, hi, e⟩ := List.getElem_of_mem hy
  rw [List.length_drop] at hi
  rw [List.getElem_drop] at e
  have h4 := List.pairwise_iff_getElem.1 h1 j (j + 1 + i) hj (by omega) (by omega)
  rw [e] at h4
  have h5 := h2 xs[j] (List.getElem_mem hj)
  have h6 := h2 y (by rw [← e]; exact List.getElem_mem _)
  rw [List.getElem?_eq_getElem hj, Option.getD_some]
  obtain ⟨a, ha⟩ : ∃ a : Nat, xs[j] = a := ⟨xs[j].toNat, by omega⟩
  obtain ⟨b, hb⟩ : ∃ b : Nat, y = b := ⟨y.toNat, by omega⟩
  rw [ha, hb]
  have e3 : ix v (a : Int) (b : Int) = a * v + b := by
    have := ix_int (v := v) (x := (a : Int)) (y := (b : Int)) (by omega) (by omega)
    rw [← Int.natCast_mul] at this
    omega
  rw [e3]
  exact sqP_mem (by omega) (by omega)
theorem smn_one {S : List Nat} {t : Nat} (hS : S.Nodup) (ht : t ∈ S) : smn (fun s => if t = s then 1 else 0) S = 1 := by
  induction S with
  | nil => cases ht
  | cons y r ih =>
    obtain ⟨h1, h2⟩ := List.nodup_cons.1 hS
    by_cases e : t = y
    · subst e
      have : smn (fun s => if t = s then 1 else 0) r = smn (fun _ => 0) r := smn_congr (fun x hx => if_neg (fun e => h1 (by rw [e]; exact hx)))
      simp only [smn]
      rw [this, smn_const]
      simp
    · simp only [smn]
      rw [if_neg e, ih h2 ((List.mem_cons.1 ht).resolve_left e)]
theorem smn_count {S : List Nat} (hS : S.Nodup) : ∀ {T : List Nat}, (∀ t ∈ T, t ∈ S) → smn (fun s => T.count s) S = T.length
  | [], _ => by simp [smn_const]
  | t :: T, h => by
    have ih := smn_count hS (T := T) (fun x hx => h x (List.mem_cons_of_mem _ hx))
    have e : smn (fun s => (t :: T).count s) S = smn (fun s => T.count s + if t = s then 1 else 0) S := smn_congr (fun s _ => by
      rw [List.count_cons]
      by_cases h1 : t = s
      · simp [h1]
      · rw [if_neg h1, if_neg (by simpa using h1)])
    rw [e, smn_add, ih, smn_one hS (h t List.mem_cons_self)]
    rfl
theorem tgL_len (v k : Nat) : ∀ (rows : List (List Int)), (∀ r ∈ rows, r.length = k) → 2 * (tgL v rows).length + rows.length * (k * k + k) = 2 * (rows.length * (k * k))
  | [], _ => by simp [tgL]
  | r :: rows, h => by
    have ih := tgL_len v k rows (fun x hx => h x (List.mem_cons_of_mem _ hx))
    have h1 := bl_len v r
    rw [h r List.mem_cons_self] at h1
    have e : tgL v (r :: rows) = bl v r ++ tgL v rows := by simp [tgL]
    rw [e, List.length_append, List.length_cons, Nat.add_mul, Nat.add_mul, Nat.one_mul, Nat.one_mul]
    omega
/-- All pairs are in as many blocks: how many blocks have a point. -/
theorem replication {v L k : Nat} {rows : List (List Int)} (hv : 3 ≤ v) (hk : 2 ≤ k) (hr : ∀ r ∈ rows, r.length = k ∧ rsB v r = true) (hL : ∀ a b : Nat, a < b → b < v → (tgL v rows).count (a * v + b) = L) :
    rows.length * k / v = L * (v - 1) / (k - 1) := by
  have h1 : smn (fun s => (tgL v rows).count s) (sqP v) = (tgL v rows).length := smn_count ((sqP_up v).imp (fun h => by omega)) (fun t ht => by
    obtain ⟨r, h2, h3⟩ := List.mem_flatMap.1 ht
    exact bl_mem (hr r h2).2 h3)
  have h2 : smn (fun s => (tgL v rows).count s) (sqP v) = (sqP v).length * L := by
    rw [smn_congr (g := fun _ => L) (fun s hs => ?_), smn_const]
    obtain ⟨a, b, h3, h4, rfl⟩ := sqP_of hs
    exact hL a b h3 h4
  have h3 := tgL_len v k rows (fun r h => (hr r h).1)
  have h4 := sqP_len v
  obtain ⟨u, rfl⟩ : ∃ u, v = u + 1 := ⟨v - 1, by omega⟩
  obtain ⟨m, rfl⟩ : ∃ m, k = m + 1 := ⟨k - 1, by omega⟩
  obtain ⟨B, hB⟩ : ∃ B, rows.length = B := ⟨_, rfl⟩
  rw [h2] at h1
  obtain ⟨S, hS⟩ : ∃ S, (sqP (u + 1)).length = S := ⟨_, rfl⟩
  rw [hS] at h1 h4
  rw [← h1, hB] at h3
  rw [hB]
  have e1 : (u + 1) * (u + 1) = (u + 1) * u + (u + 1) := by rw [Nat.mul_add, Nat.mul_one]
  have e2 : (m + 1) * (m + 1) = (m + 1) * m + (m + 1) := by rw [Nat.mul_add, Nat.mul_one]
  have h5 : 2 * S = (u + 1) * u := by omega
  have h6 : 2 * (S * L) = B * ((m + 1) * m) := by
    rw [e2, Nat.mul_add, Nat.mul_add] at h3
    omega
  have h7 : B * (m + 1) * m = L * u * (u + 1) := by
    rw [Nat.mul_assoc, ← h6, ← Nat.mul_assoc, h5, Nat.mul_comm L u, Nat.mul_comm (u * L), ← Nat.mul_assoc]
  show B * (m + 1) / (u + 1) = L * u / m
  rw [← Nat.mul_div_mul_right (B * (m + 1)) (u + 1) (show 0 < m by omega), h7, Nat.mul_comm (u + 1) m, Nat.mul_div_mul_right _ _ (by omega)]
end Go.Proofs.YtalahdkhglagpaaGreatDoor
