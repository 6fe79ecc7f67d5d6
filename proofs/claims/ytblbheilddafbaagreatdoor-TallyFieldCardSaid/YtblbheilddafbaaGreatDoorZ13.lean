/-
  Texts of the proof, merged by program: Fore.
-/
import Derived.Test.YtblbheilddafbaaGreatDoorZ12
set_option linter.unusedVariables false
set_option linter.unusedSimpArgs false
namespace Go.Proofs.YtblbheilddafbaaGreatDoor
open Go Go.RowKit
/-- The cells of a steps value. -/
abbrev stc (a0 b0 a1 b1 : Int) (neg : Bool) : Array Value := #[.int .u64 a0, .int .u64 b0, .int .u64 a1, .int .u64 b1, .bool neg]
theorem five_cells {w : World} {g : Nat} {a b c d e : Value} {T : TypeId} (h : w.heap[g]? = some (.cells #[a, b, c, d, e] T (0, 0))) :
    w.cell? ⟨g, 0, none⟩ = some a ∧ w.cell? ⟨g, 1, none⟩ = some b ∧ w.cell? ⟨g, 2, none⟩ = some c ∧ w.cell? ⟨g, 3, none⟩ = some d ∧ w.cell? ⟨g, 4, none⟩ = some e :=
  ⟨by rw [cell_of_row w g 0 _ T (0, 0) h]; rfl, by rw [cell_of_row w g 1 _ T (0, 0) h]; rfl, by rw [cell_of_row w g 2 _ T (0, 0) h]; rfl, by rw [cell_of_row w g 3 _ T (0, 0) h]; rfl, by rw [cell_of_row w g 4 _ T (0, 0) h]; rfl⟩
theorem five_set {w : World} {g : Nat} {a b c d e : Value} {T : TypeId} (h : w.heap[g]? = some (.cells #[a, b, c, d, e] T (0, 0))) (a' b' c' d' e' : Value) :
    (((((w.setCell ⟨g, 0, none⟩ a').setCell ⟨g, 2, none⟩ c').setCell ⟨g, 1, none⟩ b').setCell ⟨g, 3, none⟩ d').setCell ⟨g, 4, none⟩ e').heap[g]? = some (.cells #[a', b', c', d', e'] T (0, 0)) := by
  have h1 := heap_setCell_same w g 0 _ T a' h
  have h2 := heap_setCell_same _ g 2 _ T c' h1
  have h3 := heap_setCell_same _ g 1 _ T b' h2
  have h4 := heap_setCell_same _ g 3 _ T d' h3
  have h5 := heap_setCell_same _ g 4 _ T e' h4
  simpa using h5
theorem five_row {w : World} {g : Nat} {a b c d e : Value} {T : TypeId} (h : w.heap[g]? = some (.cells #[a, b, c, d, e] T (0, 0))) (a' b' c' d' e' : Value) :
    (((((w.setCell ⟨g, 0, none⟩ a').setCell ⟨g, 1, none⟩ b').setCell ⟨g, 2, none⟩ c').setCell ⟨g, 3, none⟩ d').setCell ⟨g, 4, none⟩ e').heap[g]? = some (.cells #[a', b', c', d', e'] T (0, 0)) := by
  have h1 := heap_setCell_same w g 0 _ T a' h
  have h2 := heap_setCell_same _ g 1 _ T b' h1
  have h3 := heap_setCell_same _ g 2 _ T c' h2
  have h4 := heap_setCell_same _ g 3 _ T d' h3
  have h5 := heap_setCell_same _ g 4 _ T e' h4
  simpa using h5
theorem below_five {w W : World} {g : Nat} (h : Below w.heap.size w W) (hg : w.heap.size ≤ g) (a b c d e : Nat) (va vb vc vd ve : Value) :
    Below w.heap.size w (((((W.setCell ⟨g, a, none⟩ va).setCell ⟨g, b, none⟩ vb).setCell ⟨g, c, none⟩ vc).setCell ⟨g, d, none⟩ vd).setCell ⟨g, e, none⟩ ve) :=
  ((((h.setCell (p := ⟨g, a, none⟩) hg _).setCell (p := ⟨g, b, none⟩) hg _).setCell (p := ⟨g, c, none⟩) hg _).setCell (p := ⟨g, d, none⟩) hg _).setCell (p := ⟨g, e, none⟩) hg _
theorem five_other {w : World} {g h : Nat} (hne : g ≠ h) (a b c d e : Nat) (va vb vc vd ve : Value) :
    (((((w.setCell ⟨g, a, none⟩ va).setCell ⟨g, b, none⟩ vb).setCell ⟨g, c, none⟩ vc).setCell ⟨g, d, none⟩ vd).setCell ⟨g, e, none⟩ ve).heap[h]? = w.heap[h]? := by
  rw [heap_setCell_other _ _ _ _ (by simpa using hne.symm), heap_setCell_other _ _ _ _ (by simpa using hne.symm), heap_setCell_other _ _ _ _ (by simpa using hne.symm), heap_setCell_other _ _ _ _ (by simpa using hne.symm), heap_setCell_other _ _ _ _ (by simpa using hne.symm)]
/-- How far the foreseen steps have come. -/
structure FsAt (A B : Int) (neg : Bool) (f s a0 b0 a1 b1 na nb : Int) : Prop where
  at_ : Leh.At A B neg f s a1 b1 na nb
  z0 : 0 ≤ a0
  z1 : a0 ≤ B
  z2 : 0 ≤ b0
  z3 : b0 ≤ A
  z4 : a1 ≤ B ∨ a1 = 1
  z5 : b1 ≤ A
  z6 : na ≤ B
  z7 : nb ≤ A ∨ nb = 1
  good : b0 = 0 ∨ ∃ p, Leh.Good A B neg a0 b0 a1 b1 p f
theorem FsAt.start {A B : Int} (hB : 0 ≤ B) (h : B ≤ A) : FsAt A B false A B 0 0 1 0 0 1 :=
  ⟨Leh.At.start hB h, by omega, hB, by omega, by omega, .inr rfl, by omega, hB, .inr rfl, .inl rfl⟩
theorem FsAt.next {A B : Int} {neg : Bool} {f s a0 b0 a1 b1 na nb : Int} (h : FsAt A B neg f s a0 b0 a1 b1 na nb) (h1 : nb ≤ s) (h2 : b1 + nb ≤ f - s) :
    FsAt A B (!neg) s (f % s) a1 b1 na nb (a1 + f / s * na) (b1 + f / s * nb) ∧ a1 + f / s * na ≤ B ∧ b1 + f / s * nb ≤ A ∧ 0 ≤ f / s * na ∧ 0 ≤ f / s * nb := by
  have hs : 1 ≤ s := by have := h.at_.m0; omega
  have hn := h.at_.next hs
  have hb := h.at_.bound hs
  have hq0 : 0 ≤ f / s := Int.ediv_nonneg (by have := h.at_.fs; omega) (by omega)
  have k1 : 0 ≤ f / s * na := Int.mul_nonneg hq0 h.at_.n0
  have k2 : 0 ≤ f / s * nb := Int.mul_nonneg hq0 (by have := h.at_.m0; omega)
  have e1 := hn.ea
  have e2 := hn.eb
  have k3 := Leh.mul_ge (a := b1 + f / s * nb) (b := s) (by have := h.at_.b0; omega) hs
  have k4 := Leh.mul_ge (a := a1 + f / s * na) (b := s) (by have := h.at_.a0; omega) hs
  have k5 : 0 ≤ nb * (f % s) := Int.mul_nonneg (by have := h.at_.m0; omega) hn.f0
  have k6 : 0 ≤ na * (f % s) := Int.mul_nonneg h.at_.n0 hn.f0
  refine ⟨⟨hn, h.at_.a0, hb.2.2.2, h.at_.b0, hb.2.2.1, .inl hb.2.1, hb.1, by omega, .inl (by omega), ?_⟩, by omega, by omega, k1, k2⟩
  by_cases hz : b1 = 0
  · exact .inl hz
  · exact .inr ⟨f, h.at_.good h1 h2 hz⟩
/-- What foresee returns. -/
def FsRet (w : World) (A B : Int) (e : Ending) (w' : World) : Prop := Below w.heap.size w w' ∧ ∃ (a0 b0 a1 b1 : Int) (neg : Bool), e = .returned (.agg (stc a0 b0 a1 b1 neg)) ∧
  0 ≤ a0 ∧ a0 < 18446744073709551616 ∧ 0 ≤ b0 ∧ b0 < 18446744073709551616 ∧ 0 ≤ a1 ∧ a1 < 18446744073709551616 ∧ 0 ≤ b1 ∧ b1 < 18446744073709551616 ∧ (b0 = 0 ∨ ∃ p f, Leh.Good A B neg a0 b0 a1 b1 p f)
theorem FsAt.sum {A B : Int} {neg : Bool} {f s a0 b0 a1 b1 na nb : Int} (h : FsAt A B neg f s a0 b0 a1 b1 na nb) (hA : A < 18446744073709551616) (h1 : nb ≤ s) : b1 + nb < 18446744073709551616 := by
  have hs : 1 ≤ s := by have := h.at_.m0; omega
  have e1 := h.at_.ea
  have m0 := h.at_.m0
  have k1 : nb * nb ≤ nb * f := Int.mul_le_mul_of_nonneg_left (by have := h.at_.fs; omega) (by omega)
  have k2 : 0 ≤ b1 * s := Int.mul_nonneg h.at_.b0 (by omega)
  have k3 : nb < 4294967296 := by
    apply Classical.byContradiction
    intro hc
    have : 4294967296 * 4294967296 ≤ nb * nb := Int.mul_le_mul (by omega) (by omega) (by omega) (by omega)
    omega
  have := h.at_.ge
  omega
set_option maxRecDepth 20000 in
set_option maxHeartbeats 2000000 in
theorem foresee_any (A B : Int) (w : World) (hB : 0 ≤ B) (hBA : B ≤ A) (hA : A < 18446744073709551616) :
    Calls Tryz.prog 135 #[.int .u64 A, .int .u64 B] w (FsRet w A B) := by
  have hnot : ∀ (x : Bool) (w : World), (Op.unary .not (.bool x)).run Tryz.prog w = .ok (.bool (!x)) w := fun _ _ => rfl
  go_enter Tryz.func135, Tryz.ntmps135
  go_wp2
  have hz0 : ((w.alloc (.cells (stc 0 0 0 0 false) 144)).alloc (.cells (stc 0 0 1 0 false) 144)).heap[w.heap.size]? = some (.cells (stc 0 0 0 0 false) 144 (0, 0)) := (heap_alloc_old _ _ (by simp)).trans (heap_alloc_new w _)
  have hz1 : ((w.alloc (.cells (stc 0 0 0 0 false) 144)).alloc (.cells (stc 0 0 1 0 false) 144)).heap[w.heap.size + 1]? = some (.cells (stc 0 0 1 0 false) 144 (0, 0)) := heap_last _ _ _ (by simp)
  have hzb : Below w.heap.size w ((w.alloc (.cells (stc 0 0 0 0 false) 144)).alloc (.cells (stc 0 0 1 0 false) 144)) := ((Below.refl _ _).alloc (Nat.le_refl _) _).alloc (by simp) _
  have HZ0 := Lib.hid hz0
  have HZ1 := Lib.hid hz1
  have HZB := Lib.hid hzb
  clear hz0 hz1 hzb
  go_loopw [0, 1, 6, 7] (fun u0 u1 u6 u7 wr => ∃ (f s a0 b0 a1 b1 na nb : Int) (neg : Bool), u0 = .int .u64 f ∧ u1 = .int .u64 s ∧ u6 = .int .u64 na ∧ u7 = .int .u64 nb ∧ Hid (FsAt A B neg f s a0 b0 a1 b1 na nb) ∧
      Hid (wr.heap[w.heap.size + 1]? = some (.cells (stc a0 b0 a1 b1 neg) 144 (0, 0))) ∧ Hid (wr.heap[w.heap.size]? = some (.cells (stc 0 0 0 0 false) 144 (0, 0))) ∧ Hid (Below w.heap.size w wr)) (fun _ u1 _ _ _ => (intOf u1).toNat)
  case atStart => exact ⟨A, B, 0, 0, 1, 0, 0, 1, false, rfl, rfl, rfl, rfl, FsAt.start hB hBA, HZ1.out, HZ0.out, HZB.out⟩
  case round =>
    obtain ⟨f, s, a0, b0, a1, b1, na, nb, neg, rfl, rfl, rfl, rfl, hat, hg1, hg0, hbl⟩ := hrel
    obtain ⟨q0, q1, q2, q3, q4⟩ := five_cells hg1.out
    obtain ⟨r0, r1, r2, r3, r4⟩ := five_cells hg0.out
    have f0 := frozen_of_row _ _ 0 _ _ hg1.out
    have f1 := frozen_of_row _ _ 1 _ _ hg1.out
    have f2 := frozen_of_row _ _ 2 _ _ hg1.out
    have f3 := frozen_of_row _ _ 3 _ _ hg1.out
    have f4 := frozen_of_row _ _ 4 _ _ hg1.out
    have e0 := frozen_of_row _ _ 0 _ _ hg0.out
    have e1 := frozen_of_row _ _ 1 _ _ hg0.out
    have e2 := frozen_of_row _ _ 2 _ _ hg0.out
    have e3 := frozen_of_row _ _ 3 _ _ hg0.out
    have e4 := frozen_of_row _ _ 4 _ _ hg0.out
    have hsz : w.heap.size + 1 < wr.heap.size := (Array.getElem?_eq_some_iff.1 hg1.out).1
    have s0 : 0 ≤ s := hat.out.at_.f0
    have sf : s ≤ f := hat.out.at_.fs
    have n0 : 0 ≤ na := hat.out.at_.n0
    have m0 : 1 ≤ nb := hat.out.at_.m0
    have b00 : 0 ≤ b1 := hat.out.at_.b0
    have a00 : 0 ≤ a1 := hat.out.at_.a0
    have z1 := hat.out.z1
    have z3 := hat.out.z3
    have z4 := hat.out.z4
    have z5 := hat.out.z5
    have z6 := hat.out.z6
    have z7 := hat.out.z7
    by_cases h1 : nb ≤ s
    · have hsum := hat.out.sum hA h1
      have hb := Lib.hid (hat.out.at_.bound (by omega))
      have hfA : f ≤ A := by
        have k1 := Leh.mul_ge (a := f) (b := nb) (by omega) m0
        have k2 := Int.mul_nonneg b00 s0
        have k3 := hat.out.at_.ea
        rw [Int.mul_comm] at k1
        omega
      by_cases h2 : b1 + nb ≤ f - s
      · have hn := hat.out.next h1 h2
        obtain ⟨hn1, hn2, hn3, hn4, hn5⟩ := hn
        have HN := Lib.hid hn1
        have hs1 : 0 < s := by omega
        have hr0 := Int.emod_nonneg f (show s ≠ 0 by omega)
        have hr1 := Int.emod_lt_of_pos f hs1
        have hq0 : 0 ≤ f / s := Int.ediv_nonneg (by omega) s0
        clear hn1
        go_wp2
        go_region
        go_wp2
        go_roundw
        case rel => exact ⟨s, f % s, a1, b1, na, nb, a1 + f / s * na, b1 + f / s * nb, !neg, rfl, rfl, rfl, rfl, HN.out, five_set hg1.out _ _ _ _ _, (five_other (by omega) _ _ _ _ _ _ _ _ _ _).trans hg0.out, (below_five hbl.out (by omega) _ _ _ _ _ _ _ _ _ _).drew⟩
        case measure => simp [intOf] <;> omega
      · go_wp2
        obtain ⟨p0, p1, p2, p3, p4⟩ := five_cells (five_row hg0.out (.int .u64 a0) (.int .u64 b0) (.int .u64 a1) (.int .u64 b1) (.bool neg))
        exact bodyPost_ret (v := .agg (stc a0 b0 a1 b1 neg)) (by simp [results, Tryz.results135, go_sem, p0, p1, p2, p3, p4]) rfl ⟨below_five hbl.out (Nat.le_refl _) _ _ _ _ _ _ _ _ _ _, a0, b0, a1, b1, neg, rfl, hat.out.z0, by omega, hat.out.z2, by omega, a00, by omega, b00, by omega, by rcases hat.out.good with h | ⟨p, h⟩; exact .inl h; exact .inr ⟨p, f, h⟩⟩
    · go_wp2
      obtain ⟨p0, p1, p2, p3, p4⟩ := five_cells (five_row hg0.out (.int .u64 a0) (.int .u64 b0) (.int .u64 a1) (.int .u64 b1) (.bool neg))
      exact bodyPost_ret (v := .agg (stc a0 b0 a1 b1 neg)) (by simp [results, Tryz.results135, go_sem, p0, p1, p2, p3, p4]) rfl ⟨below_five hbl.out (Nat.le_refl _) _ _ _ _ _ _ _ _ _ _, a0, b0, a1, b1, neg, rfl, hat.out.z0, by omega, hat.out.z2, by omega, a00, by omega, b00, by omega, by rcases hat.out.good with h | ⟨p, h⟩; exact .inl h; exact .inr ⟨p, f, h⟩⟩
end Go.Proofs.YtblbheilddafbaaGreatDoor
