/-
  Texts of the proof, merged by program: Zbx Qv.
-/
import Derived.Test.YtblbheilddafbaaGreatDoorZSums
import Derived.Test.YtblbheilddafbaaGreatDoorZZdv
import Derived.Test.YtblbheilddafbaaGreatDoorZ15
set_option linter.unusedVariables false
set_option linter.unusedSimpArgs false
/-! Boxes of the reference's integers, within a region that draws its order. -/
namespace Go.Proofs.YtblbheilddafbaaGreatDoor
open Go Go.RowKit
theorem ZV.more {L : Nat} {W : World} {v : Value} {z : Int} (h : ZV L W v z) (o : Obj) : ZV L (W.alloc o) v z := h.below ((Below.refl _ _).alloc (Nat.le_refl _) _)
theorem Hz.lt {W : World} {g : Nat} {x y : Value} (h : Hz W g x y) : g < W.heap.size := (Array.getElem?_eq_some_iff.1 h).1
/-- Block g is a box of the reference's integers that holds nothing yet. -/
def Yb (W : World) (g : Nat) : Prop := W.heap[g]? = some (.cells #[.bool false, .slice none 0 0] 25 (0, 0))
theorem Yb.lt {W : World} {g : Nat} (h : Yb W g) : g < W.heap.size := (Array.getElem?_eq_some_iff.1 h).1
theorem Yb.more {W : World} {g : Nat} (h : Yb W g) (o : Obj) : Yb (W.alloc o) g := (heap_alloc_old W o h.lt).trans h
theorem Yb.drw {W : World} {g : Nat} (h : Yb W g) : Yb W.drew g := h
theorem Yb.below {W W' : World} {g : Nat} (h : Yb W g) (hb : Below W.heap.size W W') : Yb W' g := (hb.block g h.lt).trans h
theorem Yb.new (W : World) (n : Nat) (h : W.heap.size = n) : Yb (W.alloc (.cells #[.bool false, .slice none 0 0] 25)) n := heap_last W _ n h
theorem Yb.cells {W : World} {g : Nat} (h : Yb W g) : W.cell? ⟨g, 0, none⟩ = some (.bool false) ∧ W.cell? ⟨g, 1, none⟩ = some (.slice none 0 0) ∧ W.frozen? ⟨g, 0, none⟩ = false ∧ W.frozen? ⟨g, 1, none⟩ = false := two_cells h
theorem Yb.hz {W : World} {g : Nat} (h : Yb W g) : Hz W g (.bool false) (.slice none 0 0) := h
theorem Hz.two {W : World} {g : Nat} (h : Hz W g (.bool false) (.slice none 0 0)) (u v : Value) : Hz ((W.setCell ⟨g, 0, none⟩ u).setCell ⟨g, 1, none⟩ v) g u v := two_set h u v
/-- W is w3 but for boxes, and new behind w0. -/
def Oky (w0 w3 W : World) : Prop := Below w0.heap.size w0 W ∧ ∀ L v n, NumR L w3 v n → NumR L W v n
theorem Oky.start {w0 w3 : World} (h : Below w0.heap.size w0 w3) : Oky w0 w3 w3 := ⟨h, fun _ _ _ h => h⟩
theorem Oky.alloc {w0 w3 W : World} (h : Oky w0 w3 W) (o : Obj) : Oky w0 w3 (W.alloc o) := ⟨h.1.alloc h.1.size _, fun L v n hn => (h.2 L v n hn).below ((Below.refl _ _).alloc (Nat.le_refl _) _)⟩
theorem Oky.set {w0 w3 W : World} {g : Nat} (h : Oky w0 w3 W) (hg : Hz W g (.bool false) (.slice none 0 0)) (hle : w0.heap.size ≤ g) (u v : Value) : Oky w0 w3 ((W.setCell ⟨g, 0, none⟩ u).setCell ⟨g, 1, none⟩ v) :=
  ⟨(h.1.setCell (p := ⟨g, 0, none⟩) hle _).setCell (p := ⟨g, 1, none⟩) hle _, fun L v' n hn => (h.2 L v' n hn).box hg u v⟩
theorem Oky.num {w0 w3 W : World} (h : Oky w0 w3 W) {L : Nat} {v : Value} {n : Int} (hn : NumR L w3 v n) : NumR L W v n := h.2 L v n hn
theorem Oky.bel {w0 w3 W : World} (h : Oky w0 w3 W) : Below w0.heap.size w0 W := h.1
/-- Block g holds the reference's integer z. -/
def BoxZ (L : Nat) (W : World) (g : Nat) (z : Int) : Prop := ∃ s ao k c, Hz W g (.bool s) (.slice ao k c) ∧ ZV L W (.agg #[.bool s, .slice ao k c]) z
theorem RetZ.four {L : Nat} {w : World} {z : Int} {e : Ending} {w' : World} (h : RetZ L w z e w') : Below w.heap.size w w' ∧ ∃ s ao k c, e = .returned (.agg #[.bool s, .slice ao k c]) ∧ ZV L w' (.agg #[.bool s, .slice ao k c]) z := by
  obtain ⟨hb, v', rfl, s, u, rfl, hs, hn⟩ := h
  obtain ⟨ao, k, c, rfl, _, _⟩ := hn.form
  exact ⟨hb, s, ao, k, c, rfl, _, _, rfl, hs, hn⟩
end Go.Proofs.YtblbheilddafbaaGreatDoor

set_option linter.unusedVariables false
set_option linter.unusedSimpArgs false
/-! The reference's fractions. -/
namespace Go.Proofs.YtblbheilddafbaaGreatDoor
open Go Go.RowKit
/-- The struct value v is the reference's fraction p by q. -/
def QV (L : Nat) (w : World) (v : Value) (p q : Int) : Prop := ∃ s1 u1 s2 u2, v = .agg #[.bool s1, u1, .bool s2, u2] ∧ s1 = decide (p < 0) ∧ NumR L w u1 p.natAbs ∧ s2 = decide (q < 0) ∧ NumR L w u2 q.natAbs
theorem QV.below {L : Nat} {w w' : World} {v : Value} {p q : Int} (h : QV L w v p q) (hb : Below w.heap.size w w') : QV L w' v p q :=
  let ⟨s1, u1, s2, u2, e, h1, h2, h3, h4⟩ := h; ⟨s1, u1, s2, u2, e, h1, h2.below hb, h3, h4.below hb⟩
theorem QV.mono {L L' : Nat} {w : World} {v : Value} {p q : Int} (h : QV L w v p q) (hL : L ≤ L') : QV L' w v p q :=
  let ⟨s1, u1, s2, u2, e, h1, h2, h3, h4⟩ := h; ⟨s1, u1, s2, u2, e, h1, h2.mono hL, h3, h4.mono hL⟩
theorem QV.form {L : Nat} {w : World} {v : Value} {p q : Int} (h : QV L w v p q) : ∃ s1 o1 k1 c1 s2 o2 k2 c2, v = .agg #[.bool s1, .slice o1 k1 c1, .bool s2, .slice o2 k2 c2] ∧ ZV L w (.agg #[.bool s1, .slice o1 k1 c1]) p ∧ ZV L w (.agg #[.bool s2, .slice o2 k2 c2]) q := by
  obtain ⟨s1, u1, s2, u2, rfl, h1, h2, h3, h4⟩ := h
  obtain ⟨o1, k1, c1, rfl, _, _⟩ := h2.form
  obtain ⟨o2, k2, c2, rfl, _, _⟩ := h4.form
  exact ⟨s1, o1, k1, c1, s2, o2, k2, c2, rfl, ⟨_, _, rfl, h1, h2⟩, ⟨_, _, rfl, h3, h4⟩⟩
def RetQ (L : Nat) (w : World) (p q : Int) (e : Ending) (w' : World) : Prop := Below w.heap.size w w' ∧ ∃ v', e = .returned v' ∧ QV L w' v' p q
theorem four_cells {w : World} {g : Nat} {a b c d : Value} {T : TypeId} (h : w.heap[g]? = some (.cells #[a, b, c, d] T (0, 0))) :
    w.cell? ⟨g, 0, none⟩ = some a ∧ w.cell? ⟨g, 1, none⟩ = some b ∧ w.cell? ⟨g, 2, none⟩ = some c ∧ w.cell? ⟨g, 3, none⟩ = some d ∧ w.frozen? ⟨g, 0, none⟩ = false ∧ w.frozen? ⟨g, 1, none⟩ = false ∧ w.frozen? ⟨g, 2, none⟩ = false ∧ w.frozen? ⟨g, 3, none⟩ = false :=
  ⟨by rw [cell_of_row w g 0 _ T (0, 0) h]; rfl, by rw [cell_of_row w g 1 _ T (0, 0) h]; rfl, by rw [cell_of_row w g 2 _ T (0, 0) h]; rfl, by rw [cell_of_row w g 3 _ T (0, 0) h]; rfl, frozen_of_row w g 0 _ T h, frozen_of_row w g 1 _ T h, frozen_of_row w g 2 _ T h, frozen_of_row w g 3 _ T h⟩
theorem four_set {w : World} {g : Nat} {a b c d : Value} {T : TypeId} (h : w.heap[g]? = some (.cells #[a, b, c, d] T (0, 0))) (a' b' c' d' : Value) :
    ((((w.setCell ⟨g, 0, none⟩ a').setCell ⟨g, 1, none⟩ b').setCell ⟨g, 2, none⟩ c').setCell ⟨g, 3, none⟩ d').heap[g]? = some (.cells #[a', b', c', d'] T (0, 0)) := by
  have h1 := heap_setCell_same w g 0 _ T a' h
  have h2 := heap_setCell_same _ g 1 _ T b' h1
  have h3 := heap_setCell_same _ g 2 _ T c' h2
  have h4 := heap_setCell_same _ g 3 _ T d' h3
  simpa using h4
theorem NumR.box4 {L : Nat} {w : World} {v : Value} {n : Int} {g : Nat} {x x' : Bool} {a b : Option Addr} {k c k' c' : Nat} {T : TypeId} (h : NumR L w v n) (hg : w.heap[g]? = some (.cells #[.bool x, .slice a k c, .bool x', .slice b k' c'] T (0, 0))) (u1 u2 u3 u4 : Value) :
    NumR L ((((w.setCell ⟨g, 0, none⟩ u1).setCell ⟨g, 1, none⟩ u2).setCell ⟨g, 2, none⟩ u3).setCell ⟨g, 3, none⟩ u4) v n := by
  obtain ⟨xs, h1, h2⟩ := h
  refine ⟨xs, h1.kept (growSet (growSet (growSet (growSet (growRefl w (some g)) 0 u1) 1 u2) 2 u3) 3 u4) (fun k hk e => ?_), h2⟩
  refine h1.not_box hg (fun i m => ?_) (hk.trans e.symm)
  rcases i with _ | _ | _ | _ | i <;> simp
/-- The end of a call that stores a fraction of the reference into its result's box g. -/
theorem q_end {L : Nat} {p q : Int} {w W : World} {g : Nat} {s x t y : Bool} {ao bo uo do_ : Option Addr} {k c k' c' ku cu kd cd : Nat} {T : TypeId} (hg : W.heap[g]? = some (.cells #[.bool x, .slice bo k' c', .bool y, .slice do_ kd cd] T (0, 0)))
    (hb : Below w.heap.size w W) (hgw : w.heap.size ≤ g) (hp : ZV L W (.agg #[.bool s, .slice ao k c]) p) (hq : ZV L W (.agg #[.bool t, .slice uo ku cu]) q) (W' : World)
    (hW : W' = (((W.setCell ⟨g, 0, none⟩ (.bool s)).setCell ⟨g, 1, none⟩ (.slice ao k c)).setCell ⟨g, 2, none⟩ (.bool t)).setCell ⟨g, 3, none⟩ (.slice uo ku cu)) :
    Below w.heap.size w W' ∧ QV L W' (.agg #[.bool s, .slice ao k c, .bool t, .slice uo ku cu]) p q ∧
      W'.cell? ⟨g, 0, none⟩ = some (.bool s) ∧ W'.cell? ⟨g, 1, none⟩ = some (.slice ao k c) ∧ W'.cell? ⟨g, 2, none⟩ = some (.bool t) ∧ W'.cell? ⟨g, 3, none⟩ = some (.slice uo ku cu) := by
  subst hW
  obtain ⟨q0, q1, q2, q3, _⟩ := four_cells (four_set hg (.bool s) (.slice ao k c) (.bool t) (.slice uo ku cu))
  obtain ⟨h1, h2⟩ := hp.parts
  obtain ⟨h3, h4⟩ := hq.parts
  exact ⟨(((hb.setCell (p := ⟨g, 0, none⟩) hgw _).setCell (p := ⟨g, 1, none⟩) hgw _).setCell (p := ⟨g, 2, none⟩) hgw _).setCell (p := ⟨g, 3, none⟩) hgw _, ⟨_, _, _, _, rfl, h1, h2.box4 hg _ _ _ _, h3, h4.box4 hg _ _ _ _⟩, q0, q1, q2, q3⟩
/-- Lowest terms, by the greatest common divisor. -/
theorem fr_parts {z y : Int} (hy : y ≠ 0) : ∃ G zn yn : Int, 0 < G ∧ (Int.gcd z y : Int) = G ∧ z = zn * G ∧ y = yn * G ∧ yn ≠ 0 ∧ frN z y = (if yn < 0 then -zn else zn) ∧ frD z y = (if yn < 0 then -yn else yn) := by
  obtain ⟨zn, hz⟩ := Int.gcd_dvd_left z y
  obtain ⟨yn, hyn⟩ := Int.gcd_dvd_right z y
  have hG : 0 < (Int.gcd z y : Int) := by
    have : 0 < Int.gcd z y := Int.gcd_pos_of_ne_zero_right _ hy
    omega
  obtain ⟨G, hGe⟩ : ∃ G : Int, (Int.gcd z y : Int) = G := ⟨_, rfl⟩
  rw [hGe] at hz hyn hG
  rw [Int.mul_comm] at hz hyn
  have hyn0 : yn ≠ 0 := fun e => hy (by rw [hyn, e, Int.zero_mul])
  refine ⟨G, zn, yn, hG, hGe, hz, hyn, hyn0, ?_, ?_⟩
  · unfold frN
    rw [hGe]
    by_cases h : yn < 0
    · have h1 : y < 0 := by rw [hyn]; exact Int.mul_neg_of_neg_of_pos h hG
      rw [if_pos h1, if_pos h, hz, ← Int.neg_mul]
      exact Int.mul_ediv_cancel _ (by omega)
    · have h1 : ¬ y < 0 := by have := Int.mul_nonneg (show 0 ≤ yn by omega) (Int.le_of_lt hG); omega
      rw [if_neg h1, if_neg h, hz]
      exact Int.mul_ediv_cancel _ (by omega)
  · unfold frD
    rw [hGe]
    by_cases h : yn < 0
    · have h1 : y < 0 := by rw [hyn]; exact Int.mul_neg_of_neg_of_pos h hG
      rw [if_pos h, show (y.natAbs : Int) = -yn * G by rw [Int.neg_mul]; omega]
      exact Int.mul_ediv_cancel _ (by omega)
    · have h1 : 0 ≤ y := by rw [hyn]; exact Int.mul_nonneg (by omega) (Int.le_of_lt hG)
      rw [if_neg h, show (y.natAbs : Int) = yn * G by omega]
      exact Int.mul_ediv_cancel _ (by omega)
theorem Hz.more2 {W : World} {g : Nat} {x y : Value} (h : Hz W g x y) (o : Obj) : Hz (W.alloc o) g x y := (heap_alloc_old W o (Array.getElem?_eq_some_iff.1 h).1).trans h
theorem Hz.other {W : World} {g g' : Nat} {x y : Value} (h : Hz W g x y) (hne : ¬ g = g') (u v : Value) : Hz ((W.setCell ⟨g', 0, none⟩ u).setCell ⟨g', 1, none⟩ v) g x y := by
  unfold Hz
  rw [heap_setCell_other _ _ _ _ (by simpa using hne), heap_setCell_other _ _ _ _ (by simpa using hne)]
  exact h
end Go.Proofs.YtblbheilddafbaaGreatDoor
