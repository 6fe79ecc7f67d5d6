import Derived.Test.YtalahdkhglagpaaGreatDoorDc
import Derived.Test.YtalahdkhglagpaaGreatDoorDb
set_option linter.unusedVariables false
set_option linter.unusedSimpArgs false
namespace Go.Proofs.YtalahdkhglagpaaGreatDoor
open Go Go.RowKit Go.Deep
open Dsg
/-- The numbers are points, and rise. -/
def rsB (v : Int) (xs : List Int) : Bool := decide (xs.Pairwise (· < ·)) && xs.all (fun x => decide (0 ≤ x) && decide (x < v))
theorem rsB_iff {v : Int} {xs : List Int} : rsB v xs = true ↔ xs.Pairwise (· < ·) ∧ ∀ x ∈ xs, 0 ≤ x ∧ x < v := by
  unfold rsB
  simp
theorem rsB_take {v : Int} {xs : List Int} {i : Nat} {p a : Int} (hi : i < xs.length) (ha : xs[i]?.getD 0 = a) (h : rsB v (xs.take i) = true) (hp : ∀ x ∈ xs.take i, x ≤ p) (hp2 : p = -1 ∨ p ∈ xs.take i) :
    (p < a ∧ a < v → rsB v (xs.take (i + 1)) = true ∧ ∀ x ∈ xs.take (i + 1), x ≤ a) ∧ (¬ (p < a ∧ a < v) → rsB v xs = false) := by
  have hg : xs[i] = a := by rw [List.getElem?_eq_getElem hi] at ha; simpa using ha
  have ht : xs.take (i + 1) = xs.take i ++ [a] := by rw [List.take_add_one, List.getElem?_eq_getElem hi]; simp [hg]
  obtain ⟨h1, h2⟩ := rsB_iff.1 h
  constructor
  · rintro ⟨h3, h4⟩
    rw [ht]
    have hp0 : -1 ≤ p := by
      rcases hp2 with e | e
      · omega
      · have := (h2 p e).1; omega
    refine ⟨rsB_iff.2 ⟨List.pairwise_append.2 ⟨h1, by simp, fun x hx y hy => ?_⟩, fun x hx => ?_⟩, fun x hx => ?_⟩
    · rw [List.mem_singleton] at hy
      have := hp x hx
      omega
    · rcases List.mem_append.1 hx with h5 | h5
      · exact h2 x h5
      · rw [List.mem_singleton] at h5
        omega
    · rcases List.mem_append.1 hx with h5 | h5
      · have := hp x h5; omega
      · rw [List.mem_singleton] at h5; omega
  · intro hn
    rw [Bool.eq_false_iff]
    intro hr
    obtain ⟨h3, h4⟩ := rsB_iff.1 hr
    apply hn
    have ham : a ∈ xs := by rw [← hg]; exact List.getElem_mem hi
    refine ⟨?_, (h4 a ham).2⟩
    rcases hp2 with e | e
    · have := (h4 a ham).1; omega
    · obtain ⟨j, hj, e2⟩ := List.mem_take_iff_getElem.1 e
      rw [← hg, ← e2]
      exact List.pairwise_iff_getElem.1 h3 j i (by omega) hi (by omega)
set_option maxRecDepth 20000 in
set_option maxHeartbeats 4000000 in
theorem isRising_any (v : Int) (vv : Value) (xs : List Int) (w : World) (h : Sl .i64 w vv xs) :
    Calls Tryz.prog 26 #[.int .i64 v, vv] w (fun e w' => w = w' ∧ e = .returned (.bool (rsB v xs))) := by
  obtain ⟨ao, cap, rfl, hcap, hmax, hc⟩ := h
  obtain ⟨n, hN⟩ : ∃ n, xs.length = n := ⟨_, rfl⟩
  obtain ⟨t, ht⟩ : ∃ t, rsB v xs = t := ⟨_, rfl⟩
  have HC := Kept.mk hc
  rw [hN] at hcap ⊢
  rw [ht]
  have HN := Kept.mk hN
  have HT := Kept.mk ht
  unfold maxLen at hmax
  clear hc hN ht
  go_enter Tryz.func26, Tryz.ntmps26
  go_wp2
  go_loopw [5, 10] (fun pv iv wr => ∃ (p : Int) (i : Nat), i ≤ n ∧ pv = .int .i64 p ∧ iv = .int .i64 i ∧ Kept (rsB v (xs.take i) = true ∧ (∀ x ∈ xs.take i, x ≤ p) ∧ (p = -1 ∨ p ∈ xs.take i)) ∧ wr = w) (fun _ iv _ => n - (intOf iv).toNat)
  case atStart => exact ⟨-1, 0, Nat.zero_le _, rfl, rfl, ⟨by simp [rsB], by simp, .inl rfl⟩, rfl⟩
  case round =>
    obtain ⟨p, i, hin, rfl, rfl, hat, rfl⟩ := hrel
    by_cases hlt : i < n
    · obtain ⟨g, o, rfl, hg, hcell⟩ := HC.out i (by rw [HN.out]; exact hlt)
      obtain ⟨a, ha⟩ : ∃ a, xs[i]?.getD 0 = a := ⟨_, rfl⟩
      rw [ha] at hcell
      obtain ⟨k1, k2⟩ := rsB_take (by rw [HN.out]; exact hlt) ha hat.out.1 hat.out.2.1 hat.out.2.2
      have HM : Kept (a ∈ xs.take (i + 1)) := ⟨by
        rw [List.take_add_one, List.getElem?_eq_getElem (by rw [HN.out]; exact hlt)]
        rw [List.getElem?_eq_getElem (by rw [HN.out]; exact hlt)] at ha
        simp at ha
        simp [ha]⟩
      clear ha
      by_cases h1 : a ≤ p
      · have e1 : decide (a ≤ p) = true := decide_eq_true h1
        have HF : Kept (t = false) := ⟨by rw [← HT.out]; exact k2 (fun h => by omega)⟩
        clear k1 k2
        go_wp2
        go_ret
        exact ⟨rfl, by rw [HF.out]; rfl⟩
      have e1 : decide (a ≤ p) = false := decide_eq_false h1
      by_cases h2 : a ≥ v
      · have e2 : decide (a ≥ v) = true := decide_eq_true h2
        have HF : Kept (t = false) := ⟨by rw [← HT.out]; exact k2 (fun h => by omega)⟩
        clear k1 k2
        go_wp2
        go_ret
        exact ⟨rfl, by rw [HF.out]; rfl⟩
      have e2 : decide (a ≥ v) = false := decide_eq_false h2
      have HA := Kept.mk (k1 (by omega))
      clear k1 k2
      go_wp2
      go_roundw
      case rel => exact ⟨a, i + 1, by omega, rfl, by go_num, ⟨HA.out.1, HA.out.2, .inr HM.out⟩, trivial⟩
      case measure => simp [intOf] <;> omega
    · obtain rfl : i = n := by omega
      have HF : Kept (t = true) := ⟨by have := hat.out.1; rw [← HN.out, List.take_length] at this; rw [← HT.out]; exact this⟩
      go_wp2
      go_ret
      exact ⟨rfl, by rw [HF.out]; rfl⟩
/-- The blocks have the same number of points, from 2 to v - 1. -/
def abB (v : Int) (rows : List (List Int)) : Bool := !rows.isEmpty && rows.all (fun r => decide (r.length = (rows[0]?.getD []).length) && rsB v r) && decide (2 ≤ (rows[0]?.getD []).length) && decide (((rows[0]?.getD []).length : Int) < v)
theorem abB_iff {v : Int} {rows : List (List Int)} : abB v rows = true ↔ rows ≠ [] ∧ (∀ r ∈ rows, r.length = (rows[0]?.getD []).length ∧ rsB v r = true) ∧ 2 ≤ (rows[0]?.getD []).length ∧ ((rows[0]?.getD []).length : Int) < v := by
  unfold abB
  simp [and_assoc]
theorem row_mem {rows : List (List Int)} {i : Nat} (h : i < rows.length) : rows[i]?.getD [] ∈ rows := by
  rw [List.getElem?_eq_getElem h]
  exact List.getElem_mem h
set_option maxRecDepth 20000 in
set_option maxHeartbeats 4000000 in
theorem areBlocks_any (v : Int) (ao : Option Addr) (rows : List (List Int)) (cap : Nat) (w : World) (h : Sls w ao rows) (hcap : rows.length ≤ cap) (hmax : cap ≤ maxLen) :
    Calls Tryz.prog 17 #[.int .i64 v, .slice ao rows.length cap] w (fun e w' => w = w' ∧ e = .returned (.bool (abB v rows))) := by
  obtain ⟨n, hN⟩ : ∃ n, rows.length = n := ⟨_, rfl⟩
  obtain ⟨t, ht⟩ : ∃ t, abB v rows = t := ⟨_, rfl⟩
  have HC := Kept.mk h
  rw [hN] at hcap ⊢
  rw [ht]
  have HN := Kept.mk hN
  have HT := Kept.mk ht
  unfold maxLen at hmax
  clear h hN ht
  by_cases h0 : n = 0
  · have HF : Kept (t = false) := ⟨by
      rw [← HT.out, Bool.eq_false_iff]
      intro hb
      exact (abB_iff.1 hb).1 (List.eq_nil_of_length_eq_zero (by rw [HN.out]; exact h0))⟩
    subst h0
    go_enter Tryz.func17, Tryz.ntmps17
    go_wp2
    go_ret
    exact ⟨rfl, by rw [HF.out]; rfl⟩
  have e0 : ((n : Int) == 0) = false := by simp; omega
  obtain ⟨g, o, rv0, rfl, hg, hc0, hs0⟩ := HC.out 0 (by rw [HN.out]; omega)
  obtain ⟨a0, c0, rfl, _, _⟩ := hs0.form
  obtain ⟨k, hk⟩ : ∃ k, (rows[0]?.getD []).length = k := ⟨_, rfl⟩
  rw [hk] at hc0
  have HK := Kept.mk hk
  have hkb := hs0.len
  rw [hk] at hkb
  unfold maxLen at hkb
  have hn0 : 0 < n := by omega
  rw [Nat.add_zero] at hc0
  clear hs0 hk
  go_enter Tryz.func17, Tryz.ntmps17
  go_wp2
  go_loopw [17] (fun iv wr => ∃ i : Nat, i ≤ n ∧ iv = .int .i64 i ∧ Kept (∀ r ∈ rows.take i, r.length = k ∧ rsB v r = true) ∧ wr = w) (fun iv _ => n - (intOf iv).toNat)
  case atStart => exact ⟨0, Nat.zero_le _, rfl, ⟨by simp⟩, rfl⟩
  case round =>
    obtain ⟨i, hin, rfl, hat, rfl⟩ := hrel
    by_cases hlt : i < n
    · obtain ⟨g2, o2, rv, e2, hg2, hcell, hs⟩ := HC.out i (by rw [HN.out]; exact hlt)
      simp only [Option.some.injEq, Addr.mk.injEq, and_true] at e2
      obtain ⟨rfl, rfl⟩ := e2
      obtain ⟨xs, hxs⟩ : ∃ xs, rows[i]?.getD [] = xs := ⟨_, rfl⟩
      rw [hxs] at hs
      obtain ⟨ra, rc, rfl, _, _⟩ := hs.form
      have HIR := Kept.mk (isRising_any v _ xs wr hs)
      have HXM : Kept (xs ∈ rows) := ⟨by rw [← hxs]; exact row_mem (by rw [HN.out]; exact hlt)⟩
      obtain ⟨m, hm⟩ : ∃ m, xs.length = m := ⟨_, rfl⟩
      have hmb := hs.len
      rw [hm] at hcell HIR hmb
      unfold maxLen at hmb
      obtain ⟨b, hb⟩ : ∃ b, rsB v xs = b := ⟨_, rfl⟩
      rw [hb] at HIR
      have HNF : Kept (¬ (m = k ∧ b = true) → t = false) := ⟨fun hn => by
        rw [← HT.out, Bool.eq_false_iff]
        intro hab
        have := (abB_iff.1 hab).2.1 xs HXM.out
        rw [HK.out, hm, hb] at this
        exact hn this⟩
      have HTK : Kept (m = k → b = true → ∀ r ∈ rows.take (i + 1), r.length = k ∧ rsB v r = true) := ⟨fun h1 h2 r hr => by
        rw [List.take_add_one, List.getElem?_eq_getElem (by rw [HN.out]; exact hlt)] at hr
        rw [List.getElem?_eq_getElem (by rw [HN.out]; exact hlt)] at hxs
        simp at hxs
        rcases List.mem_append.1 hr with h3 | h3
        · exact hat.out r h3
        · simp at h3
          rw [h3, hxs, hm, hb]
          exact ⟨h1, h2⟩⟩
      clear hs hxs hm hb
      by_cases hmk : m = k
      · have e1 : ((m : Int) != (k : Int)) = false := by simp [hmk]
        cases b with
        | false =>
          have HF := Kept.mk (HNF.out (fun h => by cases h.2))
          clear hmk
          go_wp2_with fail
          refine HIR.out.mono ?_
          rintro e w1 ⟨rfl, rfl⟩
          go_wp2
          go_ret
          exact ⟨rfl, by rw [HF.out]; rfl⟩
        | true =>
          have HA := Kept.mk (HTK.out hmk rfl)
          clear hmk
          go_wp2_with fail
          refine HIR.out.mono ?_
          rintro e w1 ⟨rfl, rfl⟩
          go_wp2
          go_roundw
          case rel => exact ⟨i + 1, by omega, by go_num, HA, trivial⟩
          case measure => simp [intOf] <;> omega
      · have e1 : ((m : Int) != (k : Int)) = true := by rw [bne_iff_ne]; omega
        have HF := Kept.mk (HNF.out (fun h => hmk h.1))
        clear hmk
        go_wp2
        go_ret
        exact ⟨rfl, by rw [HF.out]; rfl⟩
    · obtain rfl : i = n := by omega
      have hall : ∀ r ∈ rows, r.length = k ∧ rsB v r = true := by have := hat.out; rw [← HN.out, List.take_length] at this; exact this
      have HF : Kept (t = (decide (2 ≤ k) && decide ((k : Int) < v))) := ⟨by
        rw [← HT.out, Bool.eq_iff_iff, abB_iff, HK.out, Bool.and_eq_true, decide_eq_true_eq, decide_eq_true_eq]
        exact ⟨fun h => h.2.2, fun h => ⟨fun e => by have := HN.out; rw [e] at this; simp at this; omega, hall, h⟩⟩⟩
      clear hall
      by_cases h1 : 2 ≤ k
      · have e1 : decide ((k : Int) ≥ 2) = true := decide_eq_true (by omega)
        obtain ⟨q, hq⟩ : ∃ q, decide ((k : Int) < v) = q := ⟨_, rfl⟩
        rw [hq, decide_eq_true h1, Bool.true_and] at HF
        go_wp2
        go_ret
        exact ⟨rfl, by rw [HF.out, ← hq]; rfl⟩
      · have e1 : decide ((k : Int) ≥ 2) = false := decide_eq_false (by omega)
        rw [decide_eq_false h1, Bool.false_and] at HF
        go_wp2
        go_ret
        exact ⟨rfl, by rw [HF.out]; rfl⟩
end Go.Proofs.YtalahdkhglagpaaGreatDoor
