import Derived.Test.YtalahdkhglagpaaGreatDoorDr
import Derived.Test.YtalahdkhglagpaaGreatDoorDb
set_option linter.unusedVariables false
set_option linter.unusedSimpArgs false
namespace Go.Proofs.YtalahdkhglagpaaGreatDoor
open Go Go.RowKit Go.Deep
open Dsg
set_option maxRecDepth 20000 in
set_option maxHeartbeats 4000000 in
theorem rrising_any (v : Int) (vv : Value) (xs : List Int) (w : World) (h : Sl .i64 w vv xs) :
    Calls Tryz.prog 19 #[.int .i64 v, vv] w (RB w (.bool (rsB v xs))) := by
  obtain ⟨ao, cap, rfl, hcap, hmax, hc⟩ := h
  obtain ⟨n, hN⟩ : ∃ n, xs.length = n := ⟨_, rfl⟩
  obtain ⟨t, ht⟩ : ∃ t, rsB v xs = t := ⟨_, rfl⟩
  have HC := Kept.mk hc
  rw [hN] at hcap ⊢
  rw [ht]
  have HN := Kept.mk hN
  have HT := Kept.mk ht
  unfold maxLen at hmax
  clear hc hN ht
  go_enter Tryz.func19, Tryz.ntmps19
  go_wp2
  go_loopw [5] (fun iv wr => ∃ (p : Int) (i : Nat), i ≤ n ∧ iv = .int .i64 i ∧ Kept (rsB v (xs.take i) = true ∧ (∀ x ∈ xs.take i, x ≤ p) ∧ (p = -1 ∨ p ∈ xs.take i)) ∧ Kept (i = 0 → p = -1) ∧ Kept (0 < i → xs[i-1]?.getD 0 = p) ∧ Kept (Below w.heap.size w wr)) (fun iv _ => n - (intOf iv).toNat)
  case atStart => exact ⟨-1, 0, Nat.zero_le _, rfl, ⟨by simp [rsB], by simp, .inl rfl⟩, ⟨fun _ => rfl⟩, ⟨fun h => absurd h (by omega)⟩, ⟨Below.refl _ _⟩⟩
  case round =>
    obtain ⟨p, i, hin, rfl, hat, hp0, hp1, hbl⟩ := hrel
    by_cases hlt : i < n
    · obtain ⟨g, o, rfl, hg, hcell⟩ := HC.out i (by rw [HN.out]; exact hlt)
      have ic := (hbl.out.cell (p := ⟨g, o + i, none⟩) hg).trans hcell
      obtain ⟨a, ha⟩ : ∃ a, xs[i]?.getD 0 = a := ⟨_, rfl⟩
      rw [ha] at ic
      obtain ⟨k1, k2⟩ := rsB_take (by rw [HN.out]; exact hlt) ha hat.out.1 hat.out.2.1 hat.out.2.2
      have HPM : Kept (-1 ≤ p) := ⟨by
        rcases hat.out.2.2 with e | e
        · omega
        · have := (rsB_iff.1 hat.out.1).2 p e; omega⟩
      have HM : Kept (a ∈ xs.take (i + 1)) := ⟨by
        rw [List.take_add_one, List.getElem?_eq_getElem (by rw [HN.out]; exact hlt)]
        rw [List.getElem?_eq_getElem (by rw [HN.out]; exact hlt)] at ha
        simp at ha
        simp [ha]⟩
      have HAI : Kept (xs[i]?.getD 0 = a) := ⟨ha⟩
      clear ha hcell
      by_cases h0 : a < 0
      · have e1 : decide (a < 0) = true := decide_eq_true h0
        have HF : Kept (t = false) := ⟨by rw [← HT.out]; exact k2 (fun h => by have := HPM.out; omega)⟩
        clear k1 k2
        go_wp2
        go_quiet (fail)
        go_wp2
        go_ret
        exact ⟨below_drewN hbl.out _, by rw [HF.out]; rfl⟩
      have e1 : decide (a < 0) = false := decide_eq_false h0
      by_cases h2 : a ≥ v
      · have e2 : decide (a ≥ v) = true := decide_eq_true h2
        have HF : Kept (t = false) := ⟨by rw [← HT.out]; exact k2 (fun h => by omega)⟩
        clear k1 k2
        go_wp2
        go_quiet (fail)
        go_wp2
        go_ret
        exact ⟨below_drewN hbl.out _, by rw [HF.out]; rfl⟩
      have e2 : decide (a ≥ v) = false := decide_eq_false h2
      by_cases hi0 : i = 0
      · subst hi0
        simp only [Nat.add_zero] at ic
        have e3 : decide (((0 : Nat) : Int) > 0) = false := by decide
        have HA := Kept.mk (k1 ⟨by rw [hp0.out rfl]; omega, by omega⟩)
        clear k1 k2
        go_wp2
        go_quiet (fail)
        go_wp2
        go_roundw
        case rel => exact ⟨a, 1, by omega, by go_num, ⟨HA.out.1, HA.out.2, .inr HM.out⟩, ⟨fun h => absurd h (by omega)⟩, ⟨fun _ => HAI.out⟩, ⟨below_drewN hbl.out _⟩⟩
        case measure => simp [intOf] <;> omega
      · obtain ⟨k, rfl⟩ : ∃ k, i = k + 1 := ⟨i - 1, by omega⟩
        obtain ⟨g', o', e, hg', hcell'⟩ := HC.out k (by rw [HN.out]; omega)
        obtain ⟨rfl, rfl⟩ : g = g' ∧ o = o' := by
          simp only [Option.some.injEq, Addr.mk.injEq, and_true] at e
          exact e
        have ic2 := (hbl.out.cell (p := ⟨g, o + k, none⟩) hg').trans hcell'
        rw [show xs[k]?.getD 0 = p from hp1.out (by omega)] at ic2
        have e3 : decide (((k + 1 : Nat) : Int) > 0) = true := decide_eq_true (by omega)
        have wk : IntKind.i64.wrap (((k + 1 : Nat) : Int) - 1) = k := by rw [IntKind.wrap_i64]; omega
        have wk2 : IntKind.i64.wrap ((k : Int) + 1 - 1) = k := by rw [IntKind.wrap_i64]; omega
        clear hcell' e
        by_cases h3 : p ≥ a
        · have e4 : decide (p ≥ a) = true := decide_eq_true h3
          have HF : Kept (t = false) := ⟨by rw [← HT.out]; exact k2 (fun h => by omega)⟩
          clear k1 k2
          go_wp2
          go_quiet (fail)
          go_wp2
          go_ret
          exact ⟨below_drewN hbl.out _, by rw [HF.out]; rfl⟩
        · have e4 : decide (p ≥ a) = false := decide_eq_false h3
          have HA := Kept.mk (k1 ⟨by omega, by omega⟩)
          clear k1 k2
          go_wp2
          go_quiet (fail)
          go_wp2
          go_roundw
          case rel => exact ⟨a, k + 1 + 1, by omega, by go_num, ⟨HA.out.1, HA.out.2, .inr HM.out⟩, ⟨fun h => absurd h (by omega)⟩, ⟨fun _ => HAI.out⟩, ⟨below_drewN hbl.out _⟩⟩
          case measure => simp [intOf] <;> omega
    · obtain rfl : i = n := by omega
      have HF : Kept (t = true) := ⟨by have := hat.out.1; rw [← HN.out, List.take_length] at this; rw [← HT.out]; exact this⟩
      go_wp2
      go_ret
      exact ⟨hbl.out, by rw [HF.out]; rfl⟩
end Go.Proofs.YtalahdkhglagpaaGreatDoor
