import Derived.Test.YtalahdkhglagpaaGreatDoorItl
import Derived.OrdersHeld
import Derived.OrdersIn
import Derived.TacticsIn
set_option linter.unusedVariables false
set_option linter.unusedSimpArgs false
namespace Go.Proofs.YtalahdkhglagpaaGreatDoor
open Go Go.RowKit
/-! A region of a round's body by the laws of the plain walk. -/
theorem oper_round {P : Program} {L n : Nat} {o : Oper} {a : Act} {w : World} {K : Act → World → Prop} {Q : Exit → Act → World → Prop} (hd : ∀ c, o.op ≠ .defer c) (h : o.wp P a w K Q) : o.wpIn (Fence.wide.inRound L) n P a w K Q := by
  unfold Oper.wp at h
  unfold Oper.wpIn
  refine ⟨fun f _ => trivial, ?_⟩
  have e : o.semAt (Fence.wide.inRound L).round a.eval = execOp a.eval o := Oper.semAt_some L a.eval o hd
  rw [e]
  generalize (execOp a.eval o).run P w = r at *
  cases r with
  | ok nx w' =>
    cases nx <;> first
      | exact h
      | exact h.elim
      | exact ⟨(fun hh => by cases hh), CallsIn.inRound L (callsIn_wide.2 h)⟩
      | exact ⟨(fun hh => by cases hh), fun c cs _ => let ⟨v, w', r, s⟩ := h c cs; ⟨v, w', r, stepsIn_wide.2 s⟩⟩
  | halt hh w' => cases hh <;> first | exact h | exact h.elim
theorem list_round {P : Program} {L n : Nat} {ops : Array Oper} {Q : Exit → Act → World → Prop} (hQ : ¬ LetsOut Q) : ∀ (rest : List Oper), (∀ o ∈ rest, ∀ c, o.op ≠ .defer c) → ∀ a w, wpList P ops Q rest a w → wpListIn (Fence.wide.inRound L) n P ops Q rest a w
  | [], _, _, _, h => h
  | o :: rest, hd, a, w, h => by
    unfold wpList at h
    unfold wpListIn
    by_cases hw : Region.wanted o (yielded ops a.tmps) = true
    · rw [if_pos hw] at h ⊢
      rcases h with h | ⟨_, h⟩
      · exact oper_round (hd o List.mem_cons_self) (Oper.wp_mono (fun a' w' h' => list_round hQ rest (fun o ho => hd o (List.mem_cons_of_mem _ ho)) a' w' h') h)
      · exact absurd h hQ
    · rw [if_neg hw] at h ⊢
      exact ⟨fun f _ => trivial, list_round hQ rest (fun o ho => hd o (List.mem_cons_of_mem _ ho)) _ w h⟩
def noDefer : Op → Bool
  | .defer _ => false
  | _ => true
theorem region_lit {P : Program} {L n id : Nat} {l : List Oper} {Q : Exit → Act → World → Prop} {a : Act} {w : World} (hQ : ¬ LetsOut Q) (hd : l.all (fun o => noDefer o.op) = true) (h : wpList P l.toArray Q l a w) : (Code.region id l.toArray false).wpIn (Fence.wide.inRound L) n P Q a w :=
  wpIn_region_lit (list_round hQ l (fun o ho c e => by
    have h1 := List.all_eq_true.1 hd o ho
    rw [e] at h1
    cases h1) a w h)
end Go.Proofs.YtalahdkhglagpaaGreatDoor
