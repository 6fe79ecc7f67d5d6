/-
  Texts of the proof, merged by program: Nev.
-/
import Derived.Test.YtdnheaafcbihbaaGreatV23
set_option linter.unusedVariables false
set_option linter.unusedSimpArgs false
namespace Go.Proofs.YtdnheaafcbihbaaGreat
open Go Go.RowKit Go.Deep
open FFld (ints)
/-- In how many places of K two words differ. -/
def cntF (K : List Nat) (u v : List Nat) : Nat := (K.filter fun j => decide (u[j]?.getD 0 ≠ v[j]?.getD 0)).length
theorem disF_cnt (u v : List Nat) (K : List Nat) : ∀ n, n ≤ K.length → disF (ints (K.map fun j => u[j]?.getD 0)) (ints (K.map fun j => v[j]?.getD 0)) n = cntF (K.take n) u v
  | 0, _ => rfl
  | n + 1, hn => by
    have ih := disF_cnt u v K n (by omega)
    have hk : n < K.length := by omega
    unfold disF
    rw [FFld.ints_get, FFld.ints_get, ih, List.take_add_one, List.getElem?_eq_getElem hk]
    unfold cntF
    rw [List.filter_append, List.length_append]
    simp only [List.getElem?_map, List.getElem?_eq_getElem hk, Option.map_some, Option.getD_some, Option.toList_some, List.filter_cons, List.filter_nil]
    by_cases h : u[K[n]]?.getD 0 = v[K[n]]?.getD 0
    · rw [if_pos (by rw [h]), if_neg (by simpa using h)]
      rfl
    · rw [if_neg (show ¬ ((u[K[n]]?.getD 0 : Nat) : Int) = ((v[K[n]]?.getD 0 : Nat) : Int) from fun e => h (Int.ofNat.inj e)), if_pos (by simpa using h)]
      rfl
theorem disF_kp (es : List Int) (n : Nat) (u v : List Nat) : disF (ints (kpL es n u)) (ints (kpL es n v)) (kpF es n).length = cntF (kpF es n) u v := by
  have h := disF_cnt u v (kpF es n) (kpF es n).length (Nat.le_refl _)
  rw [List.take_length] at h
  exact h
theorem filt_one {p p' : Nat → Bool} {k : Nat} : ∀ (K : List Nat), K.Nodup → (∀ j, j ≠ k → p' j = p j) → (K.filter p').length ≤ (K.filter p).length + 1
  | [], _, _ => Nat.zero_le _
  | a :: K, hn, h => by
    obtain ⟨h1, h2⟩ := List.nodup_cons.1 hn
    rw [List.filter_cons, List.filter_cons]
    by_cases e : a = k
    · subst e
      have he : K.filter p' = K.filter p := List.filter_congr fun j hj => h j (fun e => h1 (e ▸ hj))
      rw [he]
      split <;> split <;> (try simp only [List.length_cons]) <;> omega
    · have ih := filt_one K h2 h
      rw [h a e]
      split <;> (try simp only [List.length_cons]) <;> omega
theorem cnt_set {K : List Nat} (hK : K.Nodup) (u v : List Nat) (k x : Nat) : cntF K u (v.set k x) ≤ cntF K u v + 1 := by
  unfold cntF
  refine filt_one (k := k) K hK fun j hj => ?_
  rw [List.getElem?_set_ne (fun e => hj e.symm)]
theorem cnt_none {K : List Nat} {u v : List Nat} (h : ∀ j ∈ K, v[j]?.getD 0 = u[j]?.getD 0) : cntF K u v = 0 := by
  unfold cntF
  rw [List.filter_eq_nil_iff.2 fun j hj => by simp [h j hj]]
  rfl
theorem set_same {v : List Nat} {k x : Nat} (hx : v[k]?.getD 0 = x) (hk : k < v.length) : v.set k x = v := by
  refine List.ext_getElem (by simp) fun j h1 h2 => ?_
  rw [List.getElem_set]
  split
  · rename_i e
    subst e
    rw [List.getElem?_eq_getElem h2] at hx
    exact hx.symm
  · rfl
theorem set_lt {q : Nat} {v : List Nat} {k x : Nat} (hv : ∀ a ∈ v, a < q) (hx : x < q) : ∀ a ∈ v.set k x, a < q := fun a ha => by
  rcases List.mem_or_eq_of_mem_set ha with h | h
  · exact hv a h
  · exact h ▸ hx
theorem set_get {v : List Nat} {k x j : Nat} (hj : j ≠ k) : (v.set k x)[j]?.getD 0 = v[j]?.getD 0 := by
  rw [List.getElem?_set_ne (fun e => hj e.symm)]
theorem set_got {v : List Nat} {k x : Nat} (hk : k < v.length) : (v.set k x)[k]?.getD 0 = x := by
  rw [List.getElem?_set_self hk]
  rfl
theorem nmod {q : Nat} (hq : 1 ≤ q) (x : Nat) : ∃ y : Nat, x % q = y ∧ y < q ∧ (x : Int).tmod (q : Int) = y ∧ (x : Int) % (q : Int) = y :=
  ⟨x % q, rfl, Nat.mod_lt _ (by omega), by rw [Int.tmod_eq_emod_of_nonneg (by omega)]; rfl, rfl⟩
end Go.Proofs.YtdnheaafcbihbaaGreat
