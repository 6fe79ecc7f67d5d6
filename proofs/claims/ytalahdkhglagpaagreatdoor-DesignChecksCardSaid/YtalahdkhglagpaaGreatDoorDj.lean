import Derived.Test.YtalahdkhglagpaaGreatDoorDi
set_option linter.unusedVariables false
set_option linter.unusedSimpArgs false
namespace Go.Proofs.YtalahdkhglagpaaGreatDoor
open Go Go.RowKit Go.Deep
open Dnt
/-- The error of an equation's numbers. -/
def rgF (a b : Int) : Nat := if a = 0 ∨ b = 0 then 6 else if a < -1000000 ∨ a > 1000000 ∨ b < -1000000 ∨ b > 1000000 then 1 else 0
set_option maxRecDepth 20000 in
set_option maxHeartbeats 1000000 in
theorem checkEquation_any (a b : Int) (w : World) : Calls Tryz.prog 32 #[.int .i64 a, .int .i64 b] w (fun e w' => w = w' ∧ e = .returned (.int .i64 (rgF a b : Nat))) := by
  obtain ⟨c, hc⟩ : ∃ c, rgF a b = c := ⟨_, rfl⟩
  rw [hc]
  have HC := Kept.mk hc
  clear hc
  have fin : ∀ n : Nat, rgF a b = n → (Ending.returned (Value.int .i64 (n : Int)) = Ending.returned (Value.int .i64 (c : Nat))) := fun n h => by rw [← HC.out, h]
  have HFN := Kept.mk fin
  clear fin
  by_cases h : a = 0
  · have HF := Kept.mk (HFN.out 6 (if_pos (.inl h)))
    have e1 : (a == 0) = true := beq_iff_eq.2 h
    clear h
    go_enter Tryz.func32, Tryz.ntmps32
    go_wp2
    go_ret
    exact ⟨rfl, HF.out⟩
  have ha0 := h
  have e1 : (a == 0) = false := beq_eq_false_iff_ne.2 h
  clear h
  by_cases h : b = 0
  · have HF := Kept.mk (HFN.out 6 (if_pos (.inr h)))
    have e2 : (b == 0) = true := beq_iff_eq.2 h
    clear h ha0
    go_enter Tryz.func32, Tryz.ntmps32
    go_wp2
    go_ret
    exact ⟨rfl, HF.out⟩
  have e2 : (b == 0) = false := beq_eq_false_iff_ne.2 h
  have HZ : Kept (¬ (a = 0 ∨ b = 0)) := ⟨fun h' => h'.elim ha0 h⟩
  clear h ha0
  have F1 : Kept (∀ h : a < -1000000 ∨ a > 1000000 ∨ b < -1000000 ∨ b > 1000000, rgF a b = 1) := ⟨fun h => by unfold rgF; rw [if_neg HZ.out, if_pos h]⟩
  by_cases h : a < -1000000
  · have HF := Kept.mk (HFN.out 1 (F1.out (by omega)))
    have e3 : decide (a < -1000000) = true := decide_eq_true h
    clear h
    go_enter Tryz.func32, Tryz.ntmps32
    go_wp2
    go_ret
    exact ⟨rfl, HF.out⟩
  have e3 : decide (a < -1000000) = false := decide_eq_false h
  have g3 := Kept.mk h
  clear h
  by_cases h : a > 1000000
  · have HF := Kept.mk (HFN.out 1 (F1.out (by omega)))
    have e4 : decide (a > 1000000) = true := decide_eq_true h
    clear h
    go_enter Tryz.func32, Tryz.ntmps32
    go_wp2
    go_ret
    exact ⟨rfl, HF.out⟩
  have e4 : decide (a > 1000000) = false := decide_eq_false h
  have g4 := Kept.mk h
  clear h
  by_cases h : b < -1000000
  · have HF := Kept.mk (HFN.out 1 (F1.out (by omega)))
    have e5 : decide (b < -1000000) = true := decide_eq_true h
    clear h
    go_enter Tryz.func32, Tryz.ntmps32
    go_wp2
    go_ret
    exact ⟨rfl, HF.out⟩
  have e5 : decide (b < -1000000) = false := decide_eq_false h
  have g5 := Kept.mk h
  clear h
  by_cases h : b > 1000000
  · have HF := Kept.mk (HFN.out 1 (F1.out (by omega)))
    have e6 : decide (b > 1000000) = true := decide_eq_true h
    clear h
    go_enter Tryz.func32, Tryz.ntmps32
    go_wp2
    go_ret
    exact ⟨rfl, HF.out⟩
  have e6 : decide (b > 1000000) = false := decide_eq_false h
  have g6 := Kept.mk h
  clear h
  have HF := Kept.mk (HFN.out 0 (by unfold rgF; rw [if_neg HZ.out, if_neg (by have := g3.out; have := g4.out; have := g5.out; have := g6.out; omega)]))
  go_enter Tryz.func32, Tryz.ntmps32
  go_wp2
  go_ret
  exact ⟨rfl, HF.out⟩
/-- Whether a number is a prime. -/
def prI (n : Int) : Prop := 2 ≤ n ∧ isPr n.toNat
/-- Whether a number is a place. -/
def plI (n : Int) : Prop := n = -1 ∨ n ≤ 1000000 ∧ prI n
end Go.Proofs.YtalahdkhglagpaaGreatDoor
