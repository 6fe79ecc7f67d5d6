/-
  Texts of the proof, merged by program: Arr Mak Makc.
-/
import Derived.Test.YtblbheilddafbaaGreatDoorZ22
import Derived.ChangeSame
import Derived.Test.YtblbheilddafbaaGreatDoorZFrq
import Derived.Test.YtblbheilddafbaaGreatDoorZIsz
import Derived.Test.YtblbheilddafbaaGreatDoorZFle
import Derived.SizedLaws
import Derived.ChangeMaps5
set_option linter.unusedVariables false
/-! An array of two integers that comes in by value. -/
namespace Go.Proofs.YtblbheilddafbaaGreatDoor
open Go Go.ChangeShapes Go.WideShapes Go.RowKit
variable {H : Type} {enc : TypeId × Value → H} {P : Program} {w : World} {base : Nat} {spare : Nat → Bool} {held : Bool}
theorem trod_array2 {t e : TypeId} {fuel : Nat} {c0 c1 : Value} {x : DataW H × List MemPlace} (ht : P.underlying t = some (.array 2 e)) (hce : P.cellsOf e = 1)
    (h : DataW.trod enc P w base spare held fuel t [c0, c1] = some x) :
    ∃ y0 y1 n, x = (.agg [y0.1, y1.1], y0.2 ++ y1.2) ∧ DataW.trod enc P w base spare held n e [c0] = some y0 ∧ DataW.trod enc P w base spare held n e [c1] = some y1 := by
  cases fuel with
  | zero => simp [DataW.trod] at h
  | succ n =>
    unfold DataW.trod at h
    rw [ht] at h
    have r2 : List.range 2 = [0, 1] := rfl
    simp [r2, hce] at h
    obtain ⟨_, h⟩ := h
    cases h0 : DataW.trod enc P w base spare held n e [c0] with
    | none => simp [h0] at h
    | some y0 =>
      cases h1 : DataW.trod enc P w base spare held n e [c1] with
      | none => simp [h0, h1] at h
      | some y1 =>
        simp [h0, h1] at h
        exact ⟨y0, y1, n, h.symm, h0, h1⟩
theorem list_two {α : Type} : ∀ (l : List α), l.length = 2 → ∃ a b, l = [a, b]
  | [a, b], _ => ⟨a, b, rfl⟩
theorem open_pair {r : Reach} {b0 : Nat} {t e : TypeId} {k : IntKind} {v : Value} {d : DataW H} {ps : List MemPlace} (ht : P.underlying t = some (.array 2 e)) (he : P.underlying e = some (.int k)) (hct : P.cellsOf t = 2) (hce : P.cellsOf e = 1)
    (hval : Value.okWide P w r b0 t v) (hd : DataW.Trod enc P w base spare held t v d ps) :
    ∃ n m, v = .agg #[.int k n, .int k m] ∧ d = .agg [.lit (.int k n), .lit (.int k m)] ∧ ps = [] ∧ (Lit.int k n).wf = true ∧ (Lit.int k m).wf = true := by
  obtain ⟨cs, rfl, hsz, _⟩ : ∃ cs, v = .agg cs ∧ cs.size = P.cellsOf t ∧ Row.okWide P w r b0 t cs := by
    simpa [Value.okWide, ht] using hval
  rw [hct] at hsz
  obtain ⟨l⟩ := cs
  obtain ⟨c0, c1, rfl⟩ := list_two l hsz
  obtain ⟨fuel, hf⟩ := hd
  obtain ⟨y0, y1, m, hx, hy0, hy1⟩ := trod_array2 ht hce hf
  obtain ⟨x0, e0, rfl, w0⟩ := DataW.trod_int he hy0
  obtain ⟨x1, e1, rfl, w1⟩ := DataW.trod_int he hy1
  simp at e0 e1
  subst e0 e1
  simp only [Prod.mk.injEq] at hx
  obtain ⟨rfl, rfl⟩ := hx
  exact ⟨x0, x1, rfl, rfl, rfl, w0, w1⟩
theorem shut_pair {t e : TypeId} {k : IntKind} {n m : Int} (ht : P.underlying t = some (.array 2 e)) (he : P.underlying e = some (.int k)) (hct : P.cellsOf t = 2) (hce : P.cellsOf e = 1) (h0 : (Lit.int k n).wf = true) (h1 : (Lit.int k m).wf = true) :
    DataW.Trod enc P w base spare held t (.agg #[.int k n, .int k m]) (.agg [.lit (.int k n), .lit (.int k m)]) [] := by
  have r2 : List.range 2 = [0, 1] := rfl
  exact ⟨2, by simp [DataW.trod, Value.cells, ht, he, hct, hce, h0, h1, r2]⟩
end Go.Proofs.YtblbheilddafbaaGreatDoor

set_option linter.unusedVariables false
set_option linter.unusedSimpArgs false
namespace Go.Proofs.YtblbheilddafbaaGreatDoor
open Go Go.RowKit
set_option maxRecDepth 20000 in
set_option maxHeartbeats 20000000 in
theorem makes_zero (n d : Int) (s t : ByteArray) (w : World) (hn0 : -9223372036854775808 ≤ n) (hn1 : n ≤ 9223372036854775807) (hd0 : -9223372036854775808 ≤ d) (hd1 : d ≤ 9223372036854775807) (hs : s.size ≤ 140737488355328) (ht : t.size ≤ 140737488355328) (hd : d = 0) :
    Calls Tryz.prog 12 #[.agg #[.int .i64 n, .int .i64 d], .string s, .string t] w (RetV w (.bool true)) := by
  have hnot : ∀ (x : Bool) (w : World), (Op.unary .not (.bool x)).run Tryz.prog w = .ok (.bool (!x)) w := fun _ _ => rfl
  subst hd
  have HW : Kept (Below w.heap.size w ((w.alloc (.cells #[.int .i64 n, .int .i64 0] 84)).drew)) := ⟨((Below.refl _ _).alloc (Nat.le_refl _) _).drew⟩
  have hc1 := ratio_any n 0 (w.alloc (.cells #[.int .i64 n, .int .i64 0] 84)).drew (by omega) (by omega) (by omega) (by omega)
  have HC1 := Kept.mk hc1
  clear hc1
  go_enter Tryz.func12, Tryz.ntmps12
  go_wp2
  go_region
  go_wp2_with fail
  refine HC1.out.mono ?_
  rintro e w1 ⟨hb1, v1, er1, rfl, hR1, he1⟩
  rw [if_pos rfl, if_pos rfl] at hR1
  rw [if_pos rfl] at he1
  subst he1
  obtain ⟨s1, o1, k1, c1, u1, j1, d1, rfl, g1, g2, g3, g4⟩ := hR1.form
  clear g1 g2 g3 g4 HC1
  replace HW := Kept.mk (HW.out.trans (Below.mono hb1 HW.out.size))
  clear hb1
  have hal2 : Below w1.heap.size w1 (w1.alloc (.cells #[.bool s1, .slice o1 k1 c1, .slice u1 j1 d1] 76)) := (Below.refl _ _).alloc (Nat.le_refl _) _
  replace HW := Kept.mk (HW.out.trans (Below.mono hal2 HW.out.size))
  have HBf : Kept (H3 (w1.alloc (.cells #[.bool s1, .slice o1 k1 c1, .slice u1 j1 d1] 76)) w1.heap.size (.bool s1) (.slice o1 k1 c1) (.slice u1 j1 d1)) := ⟨H3.new _ _ _ _ _ rfl⟩
  have HIf : Kept (RatV 1 (w1.alloc (.cells #[.bool s1, .slice o1 k1 c1, .slice u1 j1 d1] 76)) (.agg #[.bool s1, .slice o1 k1 c1, .slice u1 j1 d1]) (0) (1)) := ⟨hR1.below hal2⟩
  clear hal2 hR1
  obtain ⟨p4_0f, p4_1f, p4_2f, -⟩ := three_cells (HBf.out)
  go_wp2_with fail
  refine (rstring_any HIf.out (by decide) (by decide)).mono ?_
  rintro e w3 ⟨hb3, he3⟩
  rw [show str (decR 0 1) = .string ⟨#[48]⟩ from rfl] at he3
  subst he3
  replace HBf := Kept.mk (HBf.out.below hb3)
  replace HIf := Kept.mk (HIf.out.below hb3)
  replace HW := Kept.mk (HW.out.trans (Below.mono hb3 HW.out.size))
  clear hb3 p4_0f p4_1f p4_2f
  clear HBf HIf
  go_wp2_with fail
  refine (whole_any s _ hs).mono ?_
  rintro e w5 ⟨hb5, sa5, ao5, ka5, ca5, sb5, bo5, kb5, cb5, ok5, rfl, hy5⟩
  replace HW := Kept.mk (HW.out.trans (Below.mono hb5 HW.out.size))
  have HY5 := Kept.mk hy5
  clear hb5 hy5
  have hal5 : Below w5.heap.size w5 ((w5.alloc (.cells #[.bool sa5, .slice ao5 ka5 ca5] 30)).alloc (.cells #[.bool sb5, .slice bo5 kb5 cb5] 25)) := ((Below.refl _ _).alloc (Nat.le_refl _) _).alloc (by simp) _
  replace HW := Kept.mk (HW.out.trans (Below.mono hal5 HW.out.size))
  have HBa5 : Kept (Hb ((w5.alloc (.cells #[.bool sa5, .slice ao5 ka5 ca5] 30)).alloc (.cells #[.bool sb5, .slice bo5 kb5 cb5] 25)) w5.heap.size (.bool sa5) (.slice ao5 ka5 ca5)) := ⟨(Hb.new _ _ _ _ rfl).more _⟩
  have HBx5 : Kept (Hz ((w5.alloc (.cells #[.bool sa5, .slice ao5 ka5 ca5] 30)).alloc (.cells #[.bool sb5, .slice bo5 kb5 cb5] 25)) (w5.heap.size + 1) (.bool sb5) (.slice bo5 kb5 cb5)) := ⟨Hz.new _ _ _ _ (by simp)⟩
  have HAL5 := Kept.mk hal5
  clear hal5
  cases ok5
  · skip
    clear HBa5 HBx5 HY5 HAL5
    go_wp2_with fail
    refine (whole_any t _ ht).mono ?_
    rintro e w6 ⟨hb6, sa6, ao6, ka6, ca6, sb6, bo6, kb6, cb6, ok6, rfl, hy6⟩
    replace HW := Kept.mk (HW.out.trans (Below.mono hb6 HW.out.size))
    have HY6 := Kept.mk hy6
    clear hb6 hy6
    have hal6 : Below w6.heap.size w6 ((w6.alloc (.cells #[.bool sa6, .slice ao6 ka6 ca6] 30)).alloc (.cells #[.bool sb6, .slice bo6 kb6 cb6] 25)) := ((Below.refl _ _).alloc (Nat.le_refl _) _).alloc (by simp) _
    replace HW := Kept.mk (HW.out.trans (Below.mono hal6 HW.out.size))
    have HBa6 : Kept (Hb ((w6.alloc (.cells #[.bool sa6, .slice ao6 ka6 ca6] 30)).alloc (.cells #[.bool sb6, .slice bo6 kb6 cb6] 25)) w6.heap.size (.bool sa6) (.slice ao6 ka6 ca6)) := ⟨(Hb.new _ _ _ _ rfl).more _⟩
    have HBx6 : Kept (Hz ((w6.alloc (.cells #[.bool sa6, .slice ao6 ka6 ca6] 30)).alloc (.cells #[.bool sb6, .slice bo6 kb6 cb6] 25)) (w6.heap.size + 1) (.bool sb6) (.slice bo6 kb6 cb6)) := ⟨Hz.new _ _ _ _ (by simp)⟩
    have HAL6 := Kept.mk hal6
    clear hal6
    clear HBa6 HBx6 HY6 HAL6
    go_wp2_with fail
    refine (awake_any _).mono ?_
    rintro e w7 ⟨hb7, he7⟩
    subst he7
    replace HW := Kept.mk (HW.out.trans (Below.mono hb7 HW.out.size))
    clear hb7 
    go_wp2
    go_ret
    exact ⟨HW.out, rfl⟩
  · skip
    obtain ⟨z1, hz5, hl5, hsm5, hI5, hZ5⟩ := HY5.out rfl
    have HZ5 := Kept.mk hz5
    have HL5 := Kept.mk hl5
    have HSM5 := Kept.mk hsm5
    have HIa := Kept.mk (hI5.below HAL5.out)
    have HIx := Kept.mk (hZ5.below HAL5.out)
    have HBa := HBa5
    have HBx := HBx5
    clear hz5 hl5 hsm5 hI5 hZ5 HBa5 HBx5 HY5 HAL5
    go_wp2_with fail
    refine (whole_any t _ ht).mono ?_
    rintro e w6 ⟨hb6, sa6, ao6, ka6, ca6, sb6, bo6, kb6, cb6, ok6, rfl, hy6⟩
    replace HBa := Kept.mk (HBa.out.below hb6)
    replace HIa := Kept.mk (HIa.out.below hb6)
    replace HBx := Kept.mk (HBx.out.below hb6)
    replace HIx := Kept.mk (HIx.out.below hb6)
    replace HW := Kept.mk (HW.out.trans (Below.mono hb6 HW.out.size))
    have HY6 := Kept.mk hy6
    clear hb6 hy6
    have hal6 : Below w6.heap.size w6 ((w6.alloc (.cells #[.bool sa6, .slice ao6 ka6 ca6] 30)).alloc (.cells #[.bool sb6, .slice bo6 kb6 cb6] 25)) := ((Below.refl _ _).alloc (Nat.le_refl _) _).alloc (by simp) _
    replace HBa := Kept.mk (HBa.out.below hal6)
    replace HIa := Kept.mk (HIa.out.below hal6)
    replace HBx := Kept.mk (HBx.out.below hal6)
    replace HIx := Kept.mk (HIx.out.below hal6)
    replace HW := Kept.mk (HW.out.trans (Below.mono hal6 HW.out.size))
    have HBa6 : Kept (Hb ((w6.alloc (.cells #[.bool sa6, .slice ao6 ka6 ca6] 30)).alloc (.cells #[.bool sb6, .slice bo6 kb6 cb6] 25)) w6.heap.size (.bool sa6) (.slice ao6 ka6 ca6)) := ⟨(Hb.new _ _ _ _ rfl).more _⟩
    have HBx6 : Kept (Hz ((w6.alloc (.cells #[.bool sa6, .slice ao6 ka6 ca6] 30)).alloc (.cells #[.bool sb6, .slice bo6 kb6 cb6] 25)) (w6.heap.size + 1) (.bool sb6) (.slice bo6 kb6 cb6)) := ⟨Hz.new _ _ _ _ (by simp)⟩
    have HAL6 := Kept.mk hal6
    clear hal6
    cases ok6
    · skip
      clear HBa6 HBx6 HY6 HAL6
      go_wp2_with fail
      refine (awake_any _).mono ?_
      rintro e w7 ⟨hb7, he7⟩
      subst he7
      replace HBa := Kept.mk (HBa.out.below hb7)
      replace HIa := Kept.mk (HIa.out.below hb7)
      replace HBx := Kept.mk (HBx.out.below hb7)
      replace HIx := Kept.mk (HIx.out.below hb7)
      replace HW := Kept.mk (HW.out.trans (Below.mono hb7 HW.out.size))
      clear hb7 
      go_wp2
      go_ret
      exact ⟨HW.out, rfl⟩
    · skip
      obtain ⟨z2, hz6, hl6, hsm6, hI6, hZ6⟩ := HY6.out rfl
      have HZ6 := Kept.mk hz6
      have HL6 := Kept.mk hl6
      have HSM6 := Kept.mk hsm6
      have HIb := Kept.mk (hI6.below HAL6.out)
      have HIy := Kept.mk (hZ6.below HAL6.out)
      have HBb := HBa6
      have HBy := HBx6
      clear hz6 hl6 hsm6 hI6 hZ6 HBa6 HBx6 HY6 HAL6
      by_cases hz2 : z2 = 0
      · skip
        subst hz2
        obtain ⟨p8_0a, p8_1a, -, -⟩ := two_cells (HBa.out)
        obtain ⟨p9_0b, p9_1b, -, -⟩ := two_cells (HBb.out)
        go_wp2_with fail
        refine (make_zero HIa.out HIb.out).mono ?_
        rintro e w7 ⟨hb7, he7⟩
        have hf7 : e = .returned (.tuple #[.agg #[.bool false, .slice none 0 0, .slice none 0 0], .int .i64 6]) := he7
        clear he7
        subst hf7
        have hR7 := RatV.zero 0 w7
        replace HBa := Kept.mk (HBa.out.below hb7)
        replace HIa := Kept.mk (HIa.out.below hb7)
        replace HBx := Kept.mk (HBx.out.below hb7)
        replace HIx := Kept.mk (HIx.out.below hb7)
        replace HBb := Kept.mk (HBb.out.below hb7)
        replace HIb := Kept.mk (HIb.out.below hb7)
        replace HBy := Kept.mk (HBy.out.below hb7)
        replace HIy := Kept.mk (HIy.out.below hb7)
        replace HW := Kept.mk (HW.out.trans (Below.mono hb7 HW.out.size))
        clear hb7 p8_0a p8_1a p9_0b p9_1b
        have hal10 : Below w7.heap.size w7 (w7.alloc (.cells #[.bool false, .slice none 0 0, .slice none 0 0] 76)) := (Below.refl _ _).alloc (Nat.le_refl _) _
        replace HBa := Kept.mk (HBa.out.below hal10)
        replace HIa := Kept.mk (HIa.out.below hal10)
        replace HBx := Kept.mk (HBx.out.below hal10)
        replace HIx := Kept.mk (HIx.out.below hal10)
        replace HBb := Kept.mk (HBb.out.below hal10)
        replace HIb := Kept.mk (HIb.out.below hal10)
        replace HBy := Kept.mk (HBy.out.below hal10)
        replace HIy := Kept.mk (HIy.out.below hal10)
        replace HW := Kept.mk (HW.out.trans (Below.mono hal10 HW.out.size))
        have HBg : Kept (H3 (w7.alloc (.cells #[.bool false, .slice none 0 0, .slice none 0 0] 76)) w7.heap.size (.bool false) (.slice none 0 0) (.slice none 0 0)) := ⟨H3.new _ _ _ _ _ rfl⟩
        have HIg : Kept (RatV 0 (w7.alloc (.cells #[.bool false, .slice none 0 0, .slice none 0 0] 76)) (.agg #[.bool false, .slice none 0 0, .slice none 0 0]) (0) (1)) := ⟨hR7.below hal10⟩
        clear hal10 hR7
        obtain ⟨p12_0y, p12_1y, -, -⟩ := two_cells (HBy.out)
        go_wp2_with fail
        refine (rsignz_any HIy.out).mono ?_
        rintro e w11 ⟨hb11, he11⟩
        rw [Dg.sg_eq] at he11
        subst he11
        replace HBa := Kept.mk (HBa.out.below hb11)
        replace HIa := Kept.mk (HIa.out.below hb11)
        replace HBx := Kept.mk (HBx.out.below hb11)
        replace HIx := Kept.mk (HIx.out.below hb11)
        replace HBb := Kept.mk (HBb.out.below hb11)
        replace HIb := Kept.mk (HIb.out.below hb11)
        replace HBy := Kept.mk (HBy.out.below hb11)
        replace HIy := Kept.mk (HIy.out.below hb11)
        replace HBg := Kept.mk (HBg.out.below hb11)
        replace HIg := Kept.mk (HIg.out.below hb11)
        replace HW := Kept.mk (HW.out.trans (Below.mono hb11 HW.out.size))
        clear hb11 p12_0y p12_1y
        obtain ⟨p14_0g, p14_1g, p14_2g, -⟩ := three_cells (HBg.out)
        go_wp2_with fail
        refine (rstring_any HIg.out (by decide) (by decide)).mono ?_
        rintro e w13 ⟨hb13, he13⟩
        rw [show str (decR 0 1) = .string ⟨#[48]⟩ from rfl] at he13
        subst he13
        replace HBa := Kept.mk (HBa.out.below hb13)
        replace HIa := Kept.mk (HIa.out.below hb13)
        replace HBx := Kept.mk (HBx.out.below hb13)
        replace HIx := Kept.mk (HIx.out.below hb13)
        replace HBb := Kept.mk (HBb.out.below hb13)
        replace HIb := Kept.mk (HIb.out.below hb13)
        replace HBy := Kept.mk (HBy.out.below hb13)
        replace HIy := Kept.mk (HIy.out.below hb13)
        replace HBg := Kept.mk (HBg.out.below hb13)
        replace HIg := Kept.mk (HIg.out.below hb13)
        replace HW := Kept.mk (HW.out.trans (Below.mono hb13 HW.out.size))
        clear hb13 p14_0g p14_1g p14_2g
        go_wp2_with fail
        refine (awake_any _).mono ?_
        rintro e w15 ⟨hb15, he15⟩
        subst he15
        replace HBa := Kept.mk (HBa.out.below hb15)
        replace HIa := Kept.mk (HIa.out.below hb15)
        replace HBx := Kept.mk (HBx.out.below hb15)
        replace HIx := Kept.mk (HIx.out.below hb15)
        replace HBb := Kept.mk (HBb.out.below hb15)
        replace HIb := Kept.mk (HIb.out.below hb15)
        replace HBy := Kept.mk (HBy.out.below hb15)
        replace HIy := Kept.mk (HIy.out.below hb15)
        replace HBg := Kept.mk (HBg.out.below hb15)
        replace HIg := Kept.mk (HIg.out.below hb15)
        replace HW := Kept.mk (HW.out.trans (Below.mono hb15 HW.out.size))
        clear hb15 
        go_wp2
        go_ret
        exact ⟨HW.out, rfl⟩
      · skip
        obtain ⟨τ, hn0, hτ⟩ : ∃ σ : Int, (σ == 0) = false ∧ Dg.sg z2 0 = σ := by
          refine ⟨_, ?_, rfl⟩
          rcases Int.lt_trichotomy z2 0 with h | h | h
          · rw [Dg.sg_lt h]; rfl
          · exact absurd h hz2
          · rw [Dg.sg_gt h]; rfl
        have Hτ := Kept.mk hτ
        clear hτ
        obtain ⟨FN, hFN⟩ : ∃ x, frN (z1) (z2) = x := ⟨_, rfl⟩
        obtain ⟨FD, hFD⟩ : ∃ x, frD (z1) (z2) = x := ⟨_, rfl⟩
        have hFDp : 0 < FD := by rw [← hFD]; exact frD_pos hz2
        have HFN := Kept.mk hFN
        have HFD := Kept.mk hFD
        clear hFN hFD
        have HNE := Kept.mk hz2
        clear hz2
        obtain ⟨p8_0a, p8_1a, -, -⟩ := two_cells (HBa.out)
        obtain ⟨p9_0b, p9_1b, -, -⟩ := two_cells (HBb.out)
        go_wp2_with fail
        have hc7 := make_any HIa.out HIb.out HNE.out (by decide) (by decide)
        rw [HFN.out, HFD.out] at hc7
        refine hc7.mono ?_
        clear hc7
        rintro e w7 ⟨hb7, v7, rfl, hR7⟩
        obtain ⟨s7, o7, k7, c7, u7, j7, d7, rfl, g1, g2, g3, g4⟩ := hR7.form
        clear g1 g2 g3 g4
        replace HBa := Kept.mk (HBa.out.below hb7)
        replace HIa := Kept.mk (HIa.out.below hb7)
        replace HBx := Kept.mk (HBx.out.below hb7)
        replace HIx := Kept.mk (HIx.out.below hb7)
        replace HBb := Kept.mk (HBb.out.below hb7)
        replace HIb := Kept.mk (HIb.out.below hb7)
        replace HBy := Kept.mk (HBy.out.below hb7)
        replace HIy := Kept.mk (HIy.out.below hb7)
        replace HW := Kept.mk (HW.out.trans (Below.mono hb7 HW.out.size))
        clear hb7 p8_0a p8_1a p9_0b p9_1b
        have hal10 : Below w7.heap.size w7 (w7.alloc (.cells #[.bool s7, .slice o7 k7 c7, .slice u7 j7 d7] 76)) := (Below.refl _ _).alloc (Nat.le_refl _) _
        replace HBa := Kept.mk (HBa.out.below hal10)
        replace HIa := Kept.mk (HIa.out.below hal10)
        replace HBx := Kept.mk (HBx.out.below hal10)
        replace HIx := Kept.mk (HIx.out.below hal10)
        replace HBb := Kept.mk (HBb.out.below hal10)
        replace HIb := Kept.mk (HIb.out.below hal10)
        replace HBy := Kept.mk (HBy.out.below hal10)
        replace HIy := Kept.mk (HIy.out.below hal10)
        replace HW := Kept.mk (HW.out.trans (Below.mono hal10 HW.out.size))
        have HBg : Kept (H3 (w7.alloc (.cells #[.bool s7, .slice o7 k7 c7, .slice u7 j7 d7] 76)) w7.heap.size (.bool s7) (.slice o7 k7 c7) (.slice u7 j7 d7)) := ⟨H3.new _ _ _ _ _ rfl⟩
        have HIg : Kept (RatV (max 625 625) (w7.alloc (.cells #[.bool s7, .slice o7 k7 c7, .slice u7 j7 d7] 76)) (.agg #[.bool s7, .slice o7 k7 c7, .slice u7 j7 d7]) (FN) (FD)) := ⟨hR7.below hal10⟩
        clear hal10 hR7
        obtain ⟨p12_0y, p12_1y, -, -⟩ := two_cells (HBy.out)
        go_wp2_with fail
        refine (rsignz_any HIy.out).mono ?_
        rintro e w11 ⟨hb11, he11⟩
        rw [Hτ.out] at he11
        subst he11
        replace HBa := Kept.mk (HBa.out.below hb11)
        replace HIa := Kept.mk (HIa.out.below hb11)
        replace HBx := Kept.mk (HBx.out.below hb11)
        replace HIx := Kept.mk (HIx.out.below hb11)
        replace HBb := Kept.mk (HBb.out.below hb11)
        replace HIb := Kept.mk (HIb.out.below hb11)
        replace HBy := Kept.mk (HBy.out.below hb11)
        replace HIy := Kept.mk (HIy.out.below hb11)
        replace HBg := Kept.mk (HBg.out.below hb11)
        replace HIg := Kept.mk (HIg.out.below hb11)
        replace HW := Kept.mk (HW.out.trans (Below.mono hb11 HW.out.size))
        clear hb11 p12_0y p12_1y
        go_wp2_with fail
        have HRT : Kept (∀ W, Below w11.heap.size w11 W → Calls Tryz.prog 67 #[(.agg #[.bool sb5, .slice bo5 kb5 cb5]), (.agg #[.bool sb6, .slice bo6 kb6 cb6])] W (RetQ 701 W FN FD)) := ⟨fun W h => by have hc := rratio_any (HIx.out.below h) (HIy.out.below h) HNE.out (by decide) (by decide); rw [HFN.out, HFD.out] at hc; exact hc⟩
        have HEQ : Kept (∀ W u, Below w11.heap.size w11 W → QV 701 W u FN FD → Calls Tryz.prog 61 #[(.agg #[.bool s7, .slice o7 k7 c7, .slice u7 j7 d7]), u] W (RetV W (.bool true))) := ⟨fun W u h hu => requal_any (HIg.out.below h) hu hFDp (by decide) (by decide)⟩
        obtain ⟨ii0g, ii1g, ii2g, -⟩ := three_cells (HBg.out)
        obtain ⟨ii0x, ii1x, -, -⟩ := two_cells (HBx.out)
        obtain ⟨ii0y, ii1y, -, -⟩ := two_cells (HBy.out)
        refine wp_region_held_drew (S := fun w' => w'.cell? ⟨w7.heap.size, 0, none⟩ = some (.bool s7) ∧ w'.cell? ⟨w7.heap.size, 1, none⟩ = some (.slice o7 k7 c7) ∧ w'.cell? ⟨w7.heap.size, 2, none⟩ = some (.slice u7 j7 d7) ∧ w'.cell? ⟨(w5.heap.size + 1), 0, none⟩ = some (.bool sb5) ∧ w'.cell? ⟨(w5.heap.size + 1), 1, none⟩ = some (.slice bo5 kb5 cb5) ∧ w'.cell? ⟨(w6.heap.size + 1), 0, none⟩ = some (.bool sb6) ∧ w'.cell? ⟨(w6.heap.size + 1), 1, none⟩ = some (.slice bo6 kb6 cb6)) (by kernel_rfl) ?_ (fun hHeld => ?_)
        · exact ⟨ii0g, ii1g, ii2g, ii0x, ii1x, ii0y, ii1y⟩
        refine wpAnyH_take (i := 0) (v := ?_) rfl (by kernel_rfl) (by kernel_rfl) (by kernel_rfl) (fun _ _ _ h => h) (Or.inl ⟨by rfl, ?_⟩) (by assumption) ?_
        rotate_left
        · (intro w hSw; (try dsimp only at hSw); go_simp; (try with_reducible rfl))
        try simp only [Act.put, List.getElem_toArray, List.getElem_cons_succ, List.getElem_cons_zero, List.setIfInBounds_toArray, List.set_cons_zero, List.set_cons_succ]
        refine wpAnyH_take (i := 1) (v := ?_) rfl (by kernel_rfl) (by kernel_rfl) (by kernel_rfl) (fun _ _ _ h => h) (Or.inl ⟨by rfl, ?_⟩) (by assumption) ?_
        rotate_left
        · (intro w hSw; (try dsimp only at hSw); go_simp; (try with_reducible rfl))
        try simp only [Act.put, List.getElem_toArray, List.getElem_cons_succ, List.getElem_cons_zero, List.setIfInBounds_toArray, List.set_cons_zero, List.set_cons_succ]
        refine wpAnyH_take (i := 2) (v := ?_) rfl (by kernel_rfl) (by kernel_rfl) (by kernel_rfl) (fun _ _ _ h => h) (Or.inl ⟨by rfl, ?_⟩) (by assumption) ?_
        rotate_left
        · (intro w hSw; (try dsimp only at hSw); go_simp; (try with_reducible rfl))
        try simp only [Act.put, List.getElem_toArray, List.getElem_cons_succ, List.getElem_cons_zero, List.setIfInBounds_toArray, List.set_cons_zero, List.set_cons_succ]
        refine wpAnyH_take (i := 3) (v := ?_) rfl (by kernel_rfl) (by kernel_rfl) (by kernel_rfl) (fun _ _ _ h => h) (Or.inl ⟨by rfl, ?_⟩) (by assumption) ?_
        rotate_left
        · (intro w hSw; (try dsimp only at hSw); go_simp; (try with_reducible rfl))
        try simp only [Act.put, List.getElem_toArray, List.getElem_cons_succ, List.getElem_cons_zero, List.setIfInBounds_toArray, List.set_cons_zero, List.set_cons_succ]
        refine wpAnyH_take (i := 4) (v := ?_) rfl (by kernel_rfl) (by kernel_rfl) (by kernel_rfl) (fun _ _ _ h => h) (Or.inl ⟨by rfl, ?_⟩) (by assumption) ?_
        rotate_left
        · (intro w hSw; (try dsimp only at hSw); go_simp; (try with_reducible rfl))
        try simp only [Act.put, List.getElem_toArray, List.getElem_cons_succ, List.getElem_cons_zero, List.setIfInBounds_toArray, List.set_cons_zero, List.set_cons_succ]
        refine wpAnyH_take (i := 5) (v := ?_) rfl (by kernel_rfl) (by kernel_rfl) (by kernel_rfl) (fun _ _ _ h => h) (Or.inl ⟨by rfl, ?_⟩) (by assumption) ?_
        rotate_left
        · (intro w hSw; (try dsimp only at hSw); go_simp; (try with_reducible rfl))
        try simp only [Act.put, List.getElem_toArray, List.getElem_cons_succ, List.getElem_cons_zero, List.setIfInBounds_toArray, List.set_cons_zero, List.set_cons_succ]
        refine wpAnyH_ready (rs := [6]) (by kernel_rfl) (by simp) ?_
        refine AllReadyH.cons rfl (fun K hK => ?_) AllReadyH.nil
        go_simp
        refine (HRT.out _ ?h1).mono ?_
        case h1 => exact ((Bxs.start w11).drew).1
        rintro e wB1' ⟨hbB1, v1', rfl, hV1⟩
        have hyB1 := Bxs.below ((Bxs.start w11).drew) hbB1
        obtain ⟨ja0g, ja1g, ja2g, -⟩ := three_cells (HBg.out.below hyB1.1)
        obtain ⟨ja0x, ja1x, -, -⟩ := two_cells (HBx.out.below hyB1.1)
        obtain ⟨ja0y, ja1y, -, -⟩ := two_cells (HBy.out.below hyB1.1)
        refine hK.out _ _ ?_ (fun hHeld => ?_)
        · exact ⟨ja0g, ja1g, ja2g, ja0x, ja1x, ja0y, ja1y⟩
        clear hK K
        try simp only [Act.put, List.getElem_toArray, List.getElem_cons_succ, List.getElem_cons_zero, List.setIfInBounds_toArray, List.set_cons_zero, List.set_cons_succ]
        refine wpAnyH_ready (rs := [7]) (by kernel_rfl) (by simp) ?_
        refine AllReadyH.cons rfl (fun K hK => ?_) AllReadyH.nil
        go_simp
        refine (HEQ.out _ _ ?h1 ?h2).mono ?_
        case h1 => exact hyB1.1
        case h2 => exact hV1
        rintro e wB2' ⟨hbB2, rfl⟩
        have hyB2 := Bxs.below hyB1 hbB2
        obtain ⟨jb0g, jb1g, jb2g, -⟩ := three_cells (HBg.out.below hyB2.1)
        obtain ⟨jb0x, jb1x, -, -⟩ := two_cells (HBx.out.below hyB2.1)
        obtain ⟨jb0y, jb1y, -, -⟩ := two_cells (HBy.out.below hyB2.1)
        refine hK.out _ _ ?_ (fun hHeld => ?_)
        · exact ⟨jb0g, jb1g, jb2g, jb0x, jb1x, jb0y, jb1y⟩
        clear hK K
        try simp only [Act.put, List.getElem_toArray, List.getElem_cons_succ, List.getElem_cons_zero, List.setIfInBounds_toArray, List.set_cons_zero, List.set_cons_succ]
        refine wpAnyH_take (i := 8) (v := ?_) rfl (by kernel_rfl) (by kernel_rfl) (by kernel_rfl) (fun _ _ _ h => h) (Or.inl ⟨by rfl, ?_⟩) (by assumption) ?_
        rotate_left
        · (intro w hSw; (try dsimp only at hSw); go_simp; (try with_reducible rfl))
        try simp only [Act.put, List.getElem_toArray, List.getElem_cons_succ, List.getElem_cons_zero, List.setIfInBounds_toArray, List.set_cons_zero, List.set_cons_succ]
        refine wpAnyH_take (i := 9) (v := ?_) rfl (by kernel_rfl) (by kernel_rfl) (by kernel_rfl) (fun _ _ _ h => h) (Or.inl ⟨by rfl, ?_⟩) (by assumption) ?_
        rotate_left
        · (intro w hSw; (try dsimp only at hSw); go_simp; (try with_reducible rfl))
        try simp only [Act.put, List.getElem_toArray, List.getElem_cons_succ, List.getElem_cons_zero, List.setIfInBounds_toArray, List.set_cons_zero, List.set_cons_succ]
        refine wpAnyH_ready (rs := [10]) (by kernel_rfl) (by simp) ?_
        refine AllReadyH.cons rfl (fun K hK => ?_) AllReadyH.nil
        go_simp
        refine (awake_any _).mono ?_
        rintro e wB3' ⟨hbB3, rfl⟩
        have hyB3 := Bxs.below hyB2 hbB3
        obtain ⟨jc0g, jc1g, jc2g, -⟩ := three_cells (HBg.out.below hyB3.1)
        obtain ⟨jc0x, jc1x, -, -⟩ := two_cells (HBx.out.below hyB3.1)
        obtain ⟨jc0y, jc1y, -, -⟩ := two_cells (HBy.out.below hyB3.1)
        refine hK.out _ _ ?_ (fun hHeld => ?_)
        · exact ⟨jc0g, jc1g, jc2g, jc0x, jc1x, jc0y, jc1y⟩
        clear hK K
        try simp only [Act.put, List.getElem_toArray, List.getElem_cons_succ, List.getElem_cons_zero, List.setIfInBounds_toArray, List.set_cons_zero, List.set_cons_succ]
        refine wpAnyH_take (i := 11) (v := ?_) rfl (by kernel_rfl) (by kernel_rfl) (by kernel_rfl) (fun _ _ _ h => h) (Or.inl ⟨by rfl, ?_⟩) (by assumption) ?_
        rotate_left
        · (intro w hSw; (try dsimp only at hSw); go_simp; (try with_reducible rfl))
        try simp only [Act.put, List.getElem_toArray, List.getElem_cons_succ, List.getElem_cons_zero, List.setIfInBounds_toArray, List.set_cons_zero, List.set_cons_succ]
        refine wpAnyH_take (i := 12) (v := ?_) rfl (by kernel_rfl) (by kernel_rfl) (by kernel_rfl) (fun _ _ _ h => h) (Or.inl ⟨by rfl, ?_⟩) (by assumption) ?_
        rotate_left
        · (intro w hSw; (try dsimp only at hSw); go_simp; (try with_reducible rfl))
        try simp only [Act.put, List.getElem_toArray, List.getElem_cons_succ, List.getElem_cons_zero, List.setIfInBounds_toArray, List.set_cons_zero, List.set_cons_succ]
        refine wpAnyH_done (by kernel_rfl) ?_ _
        have hfin : Below w.heap.size w wB3' := HW.out.trans (hyB3.1.mono HW.out.size)
        have HFIN := Kept.mk hfin
        go_wp2
        go_ret
        exact ⟨HFIN.out, rfl⟩
set_option maxRecDepth 20000 in
set_option maxHeartbeats 20000000 in
theorem makes_some (n d : Int) (s t : ByteArray) (w : World) (hn0 : -9223372036854775808 ≤ n) (hn1 : n ≤ 9223372036854775807) (hd0 : -9223372036854775808 ≤ d) (hd1 : d ≤ 9223372036854775807) (hs : s.size ≤ 140737488355328) (ht : t.size ≤ 140737488355328) (hd : d ≠ 0) :
    Calls Tryz.prog 12 #[.agg #[.int .i64 n, .int .i64 d], .string s, .string t] w (RetV w (.bool true)) := by
  have hnot : ∀ (x : Bool) (w : World), (Op.unary .not (.bool x)).run Tryz.prog w = .ok (.bool (!x)) w := fun _ _ => rfl
  have hdb : (d == 0) = false := beq_eq_false_iff_ne.2 hd
  have HD := Kept.mk hd
  obtain ⟨GN, hGN⟩ : ∃ x, frN (n) (d) = x := ⟨_, rfl⟩
  obtain ⟨GD, hGD⟩ : ∃ x, frD (n) (d) = x := ⟨_, rfl⟩
  have hGDp : 0 < GD := by rw [← hGD]; exact frD_pos hd
  have HGN := Kept.mk hGN
  have HGD := Kept.mk hGD
  clear hGN hGD
  clear hd
  have HW : Kept (Below w.heap.size w ((w.alloc (.cells #[.int .i64 n, .int .i64 d] 84)).drew)) := ⟨((Below.refl _ _).alloc (Nat.le_refl _) _).drew⟩
  have hc1 := ratio_any n d (w.alloc (.cells #[.int .i64 n, .int .i64 d] 84)).drew (by omega) (by omega) (by omega) (by omega)
  have HC1 := Kept.mk hc1
  clear hc1
  go_enter Tryz.func12, Tryz.ntmps12
  go_wp2
  go_region
  go_wp2_with fail
  refine HC1.out.mono ?_
  rintro e w1 ⟨hb1, v1, er1, rfl, hR1, he1⟩
  rw [if_neg HD.out, if_neg HD.out, HGN.out, HGD.out] at hR1
  rw [if_neg HD.out] at he1
  subst he1
  obtain ⟨s1, o1, k1, c1, u1, j1, d1, rfl, g1, g2, g3, g4⟩ := hR1.form
  clear g1 g2 g3 g4 HC1
  replace HW := Kept.mk (HW.out.trans (Below.mono hb1 HW.out.size))
  clear hb1
  have hal2 : Below w1.heap.size w1 (w1.alloc (.cells #[.bool s1, .slice o1 k1 c1, .slice u1 j1 d1] 76)) := (Below.refl _ _).alloc (Nat.le_refl _) _
  replace HW := Kept.mk (HW.out.trans (Below.mono hal2 HW.out.size))
  have HBf : Kept (H3 (w1.alloc (.cells #[.bool s1, .slice o1 k1 c1, .slice u1 j1 d1] 76)) w1.heap.size (.bool s1) (.slice o1 k1 c1) (.slice u1 j1 d1)) := ⟨H3.new _ _ _ _ _ rfl⟩
  have HIf : Kept (RatV 1 (w1.alloc (.cells #[.bool s1, .slice o1 k1 c1, .slice u1 j1 d1] 76)) (.agg #[.bool s1, .slice o1 k1 c1, .slice u1 j1 d1]) (GN) (GD)) := ⟨hR1.below hal2⟩
  clear hal2 hR1
  go_wp2_with fail
  generalize w1.alloc (.cells #[.bool s1, .slice o1 k1 c1, .slice u1 j1 d1] 76) = ws at *
  have HFR : Kept (∀ W, Below ws.heap.size ws W → Calls Tryz.prog 64 #[.int .i64 n, .int .i64 d] W (RetQ 64 W GN GD)) := ⟨fun W h => by have hc := rfrac_any n d W (by omega) (by omega) (by omega) (by omega) HD.out; rw [HGN.out, HGD.out] at hc; exact hc⟩
  have HEQ : Kept (∀ W u, Below ws.heap.size ws W → QV 64 W u GN GD → Calls Tryz.prog 61 #[(.agg #[.bool s1, .slice o1 k1 c1, .slice u1 j1 d1]), u] W (RetV W (.bool true))) := ⟨fun W u h hu => requal_any (HIf.out.below h) hu hGDp (by decide) (by decide)⟩
  obtain ⟨ii0f, ii1f, ii2f, -⟩ := three_cells (HBf.out)
  refine wp_region_held_drew (S := fun w' => w'.cell? ⟨w1.heap.size, 0, none⟩ = some (.bool s1) ∧ w'.cell? ⟨w1.heap.size, 1, none⟩ = some (.slice o1 k1 c1) ∧ w'.cell? ⟨w1.heap.size, 2, none⟩ = some (.slice u1 j1 d1)) (by kernel_rfl) ?_ (fun hHeld => ?_)
  · exact ⟨ii0f, ii1f, ii2f⟩
  refine wpAnyH_take (i := 0) (v := ?_) rfl (by kernel_rfl) (by kernel_rfl) (by kernel_rfl) (fun _ _ _ h => h) (Or.inl ⟨by rfl, ?_⟩) (by assumption) ?_
  rotate_left
  · (intro w hSw; (try dsimp only at hSw); go_simp; (try with_reducible rfl))
  try simp only [Act.put, List.getElem_toArray, List.getElem_cons_succ, List.getElem_cons_zero, List.setIfInBounds_toArray, List.set_cons_zero, List.set_cons_succ]
  refine wpAnyH_take (i := 1) (v := ?_) rfl (by kernel_rfl) (by kernel_rfl) (by kernel_rfl) (fun _ _ _ h => h) (Or.inl ⟨by rfl, ?_⟩) (by assumption) ?_
  rotate_left
  · (intro w hSw; (try dsimp only at hSw); go_simp; (try with_reducible rfl))
  try simp only [Act.put, List.getElem_toArray, List.getElem_cons_succ, List.getElem_cons_zero, List.setIfInBounds_toArray, List.set_cons_zero, List.set_cons_succ]
  refine wpAnyH_take (i := 2) (v := ?_) rfl (by kernel_rfl) (by kernel_rfl) (by kernel_rfl) (fun _ _ _ h => h) (Or.inl ⟨by rfl, ?_⟩) (by assumption) ?_
  rotate_left
  · (intro w hSw; (try dsimp only at hSw); go_simp; (try with_reducible rfl))
  try simp only [Act.put, List.getElem_toArray, List.getElem_cons_succ, List.getElem_cons_zero, List.setIfInBounds_toArray, List.set_cons_zero, List.set_cons_succ]
  refine wpAnyH_take (i := 3) (v := ?_) rfl (by kernel_rfl) (by kernel_rfl) (by kernel_rfl) (fun _ _ _ h => h) (Or.inl ⟨by rfl, ?_⟩) (by assumption) ?_
  rotate_left
  · (intro w hSw; (try dsimp only at hSw); go_simp; (try with_reducible rfl))
  try simp only [Act.put, List.getElem_toArray, List.getElem_cons_succ, List.getElem_cons_zero, List.setIfInBounds_toArray, List.set_cons_zero, List.set_cons_succ]
  refine wpAnyH_take (i := 4) (v := ?_) rfl (by kernel_rfl) (by kernel_rfl) (by kernel_rfl) (fun _ _ _ h => h) (Or.inl ⟨by rfl, ?_⟩) (by assumption) ?_
  rotate_left
  · (intro w hSw; (try dsimp only at hSw); go_simp; (try with_reducible rfl))
  try simp only [Act.put, List.getElem_toArray, List.getElem_cons_succ, List.getElem_cons_zero, List.setIfInBounds_toArray, List.set_cons_zero, List.set_cons_succ]
  refine wpAnyH_take (i := 5) (v := ?_) rfl (by kernel_rfl) (by kernel_rfl) (by kernel_rfl) (fun _ _ _ h => h) (Or.inl ⟨by rfl, ?_⟩) (by assumption) ?_
  rotate_left
  · (intro w hSw; (try dsimp only at hSw); go_simp; (try with_reducible rfl))
  try simp only [Act.put, List.getElem_toArray, List.getElem_cons_succ, List.getElem_cons_zero, List.setIfInBounds_toArray, List.set_cons_zero, List.set_cons_succ]
  refine wpAnyH_ready (rs := [6]) (by kernel_rfl) (by simp) ?_
  refine AllReadyH.cons rfl (fun K hK => ?_) AllReadyH.nil
  go_simp
  refine (HFR.out _ ?h1).mono ?_
  case h1 => exact ((Bxs.start ws).drew).1
  rintro e wA1' ⟨hbA1, v1', rfl, hV1⟩
  have hyA1 := Bxs.below ((Bxs.start ws).drew) hbA1
  obtain ⟨ja0f, ja1f, ja2f, -⟩ := three_cells (HBf.out.below hyA1.1)
  refine hK.out _ _ ?_ (fun hHeld => ?_)
  · exact ⟨ja0f, ja1f, ja2f⟩
  clear hK K
  try simp only [Act.put, List.getElem_toArray, List.getElem_cons_succ, List.getElem_cons_zero, List.setIfInBounds_toArray, List.set_cons_zero, List.set_cons_succ]
  refine wpAnyH_ready (rs := [7]) (by kernel_rfl) (by simp) ?_
  refine AllReadyH.cons rfl (fun K hK => ?_) AllReadyH.nil
  go_simp
  refine (HEQ.out _ _ ?h1 ?h2).mono ?_
  case h1 => exact hyA1.1
  case h2 => exact hV1
  rintro e wA2' ⟨hbA2, rfl⟩
  have hyA2 := Bxs.below hyA1 hbA2
  obtain ⟨jb0f, jb1f, jb2f, -⟩ := three_cells (HBf.out.below hyA2.1)
  refine hK.out _ _ ?_ (fun hHeld => ?_)
  · exact ⟨jb0f, jb1f, jb2f⟩
  clear hK K
  try simp only [Act.put, List.getElem_toArray, List.getElem_cons_succ, List.getElem_cons_zero, List.setIfInBounds_toArray, List.set_cons_zero, List.set_cons_succ]
  refine wpAnyH_take (i := 8) (v := ?_) rfl (by kernel_rfl) (by kernel_rfl) (by kernel_rfl) (fun _ _ _ h => h) (Or.inl ⟨by rfl, ?_⟩) (by assumption) ?_
  rotate_left
  · (intro w hSw; (try dsimp only at hSw); go_simp; (try with_reducible rfl))
  try simp only [Act.put, List.getElem_toArray, List.getElem_cons_succ, List.getElem_cons_zero, List.setIfInBounds_toArray, List.set_cons_zero, List.set_cons_succ]
  refine wpAnyH_take (i := 9) (v := ?_) rfl (by kernel_rfl) (by kernel_rfl) (by kernel_rfl) (fun _ _ _ h => h) (Or.inl ⟨by rfl, ?_⟩) (by assumption) ?_
  rotate_left
  · (intro w hSw; (try dsimp only at hSw); go_simp; (try with_reducible rfl))
  try simp only [Act.put, List.getElem_toArray, List.getElem_cons_succ, List.getElem_cons_zero, List.setIfInBounds_toArray, List.set_cons_zero, List.set_cons_succ]
  refine wpAnyH_done (by kernel_rfl) ?_ _
  have hmv := hyA2.1
  clear ii0f ii1f ii2f ja0f ja1f ja2f jb0f jb1f jb2f
  replace HBf := Kept.mk (HBf.out.below hmv)
  replace HIf := Kept.mk (HIf.out.below hmv)
  replace HW := Kept.mk (HW.out.trans (Below.mono hmv HW.out.size))
  clear hmv HFR HEQ HBf HIf hyA2 hbA2 hyA1 hbA1
  go_wp2_with fail
  refine (whole_any s _ hs).mono ?_
  rintro e w3 ⟨hb3, sa3, ao3, ka3, ca3, sb3, bo3, kb3, cb3, ok3, rfl, hy3⟩
  replace HW := Kept.mk (HW.out.trans (Below.mono hb3 HW.out.size))
  have HY3 := Kept.mk hy3
  clear hb3 hy3
  have hal3 : Below w3.heap.size w3 ((w3.alloc (.cells #[.bool sa3, .slice ao3 ka3 ca3] 30)).alloc (.cells #[.bool sb3, .slice bo3 kb3 cb3] 25)) := ((Below.refl _ _).alloc (Nat.le_refl _) _).alloc (by simp) _
  replace HW := Kept.mk (HW.out.trans (Below.mono hal3 HW.out.size))
  have HBa3 : Kept (Hb ((w3.alloc (.cells #[.bool sa3, .slice ao3 ka3 ca3] 30)).alloc (.cells #[.bool sb3, .slice bo3 kb3 cb3] 25)) w3.heap.size (.bool sa3) (.slice ao3 ka3 ca3)) := ⟨(Hb.new _ _ _ _ rfl).more _⟩
  have HBx3 : Kept (Hz ((w3.alloc (.cells #[.bool sa3, .slice ao3 ka3 ca3] 30)).alloc (.cells #[.bool sb3, .slice bo3 kb3 cb3] 25)) (w3.heap.size + 1) (.bool sb3) (.slice bo3 kb3 cb3)) := ⟨Hz.new _ _ _ _ (by simp)⟩
  have HAL3 := Kept.mk hal3
  clear hal3
  cases ok3
  · skip
    clear HBa3 HBx3 HY3 HAL3
    go_wp2_with fail
    refine (whole_any t _ ht).mono ?_
    rintro e w4 ⟨hb4, sa4, ao4, ka4, ca4, sb4, bo4, kb4, cb4, ok4, rfl, hy4⟩
    replace HW := Kept.mk (HW.out.trans (Below.mono hb4 HW.out.size))
    have HY4 := Kept.mk hy4
    clear hb4 hy4
    have hal4 : Below w4.heap.size w4 ((w4.alloc (.cells #[.bool sa4, .slice ao4 ka4 ca4] 30)).alloc (.cells #[.bool sb4, .slice bo4 kb4 cb4] 25)) := ((Below.refl _ _).alloc (Nat.le_refl _) _).alloc (by simp) _
    replace HW := Kept.mk (HW.out.trans (Below.mono hal4 HW.out.size))
    have HBa4 : Kept (Hb ((w4.alloc (.cells #[.bool sa4, .slice ao4 ka4 ca4] 30)).alloc (.cells #[.bool sb4, .slice bo4 kb4 cb4] 25)) w4.heap.size (.bool sa4) (.slice ao4 ka4 ca4)) := ⟨(Hb.new _ _ _ _ rfl).more _⟩
    have HBx4 : Kept (Hz ((w4.alloc (.cells #[.bool sa4, .slice ao4 ka4 ca4] 30)).alloc (.cells #[.bool sb4, .slice bo4 kb4 cb4] 25)) (w4.heap.size + 1) (.bool sb4) (.slice bo4 kb4 cb4)) := ⟨Hz.new _ _ _ _ (by simp)⟩
    have HAL4 := Kept.mk hal4
    clear hal4
    clear HBa4 HBx4 HY4 HAL4
    go_wp2_with fail
    refine (awake_any _).mono ?_
    rintro e w5 ⟨hb5, he5⟩
    subst he5
    replace HW := Kept.mk (HW.out.trans (Below.mono hb5 HW.out.size))
    clear hb5 
    go_wp2
    go_ret
    exact ⟨HW.out, rfl⟩
  · skip
    obtain ⟨z1, hz3, hl3, hsm3, hI3, hZ3⟩ := HY3.out rfl
    have HZ3 := Kept.mk hz3
    have HL3 := Kept.mk hl3
    have HSM3 := Kept.mk hsm3
    have HIa := Kept.mk (hI3.below HAL3.out)
    have HIx := Kept.mk (hZ3.below HAL3.out)
    have HBa := HBa3
    have HBx := HBx3
    clear hz3 hl3 hsm3 hI3 hZ3 HBa3 HBx3 HY3 HAL3
    go_wp2_with fail
    refine (whole_any t _ ht).mono ?_
    rintro e w4 ⟨hb4, sa4, ao4, ka4, ca4, sb4, bo4, kb4, cb4, ok4, rfl, hy4⟩
    replace HBa := Kept.mk (HBa.out.below hb4)
    replace HIa := Kept.mk (HIa.out.below hb4)
    replace HBx := Kept.mk (HBx.out.below hb4)
    replace HIx := Kept.mk (HIx.out.below hb4)
    replace HW := Kept.mk (HW.out.trans (Below.mono hb4 HW.out.size))
    have HY4 := Kept.mk hy4
    clear hb4 hy4
    have hal4 : Below w4.heap.size w4 ((w4.alloc (.cells #[.bool sa4, .slice ao4 ka4 ca4] 30)).alloc (.cells #[.bool sb4, .slice bo4 kb4 cb4] 25)) := ((Below.refl _ _).alloc (Nat.le_refl _) _).alloc (by simp) _
    replace HBa := Kept.mk (HBa.out.below hal4)
    replace HIa := Kept.mk (HIa.out.below hal4)
    replace HBx := Kept.mk (HBx.out.below hal4)
    replace HIx := Kept.mk (HIx.out.below hal4)
    replace HW := Kept.mk (HW.out.trans (Below.mono hal4 HW.out.size))
    have HBa4 : Kept (Hb ((w4.alloc (.cells #[.bool sa4, .slice ao4 ka4 ca4] 30)).alloc (.cells #[.bool sb4, .slice bo4 kb4 cb4] 25)) w4.heap.size (.bool sa4) (.slice ao4 ka4 ca4)) := ⟨(Hb.new _ _ _ _ rfl).more _⟩
    have HBx4 : Kept (Hz ((w4.alloc (.cells #[.bool sa4, .slice ao4 ka4 ca4] 30)).alloc (.cells #[.bool sb4, .slice bo4 kb4 cb4] 25)) (w4.heap.size + 1) (.bool sb4) (.slice bo4 kb4 cb4)) := ⟨Hz.new _ _ _ _ (by simp)⟩
    have HAL4 := Kept.mk hal4
    clear hal4
    cases ok4
    · skip
      clear HBa4 HBx4 HY4 HAL4
      go_wp2_with fail
      refine (awake_any _).mono ?_
      rintro e w5 ⟨hb5, he5⟩
      subst he5
      replace HBa := Kept.mk (HBa.out.below hb5)
      replace HIa := Kept.mk (HIa.out.below hb5)
      replace HBx := Kept.mk (HBx.out.below hb5)
      replace HIx := Kept.mk (HIx.out.below hb5)
      replace HW := Kept.mk (HW.out.trans (Below.mono hb5 HW.out.size))
      clear hb5 
      go_wp2
      go_ret
      exact ⟨HW.out, rfl⟩
    · skip
      obtain ⟨z2, hz4, hl4, hsm4, hI4, hZ4⟩ := HY4.out rfl
      have HZ4 := Kept.mk hz4
      have HL4 := Kept.mk hl4
      have HSM4 := Kept.mk hsm4
      have HIb := Kept.mk (hI4.below HAL4.out)
      have HIy := Kept.mk (hZ4.below HAL4.out)
      have HBb := HBa4
      have HBy := HBx4
      clear hz4 hl4 hsm4 hI4 hZ4 HBa4 HBx4 HY4 HAL4
      by_cases hz2 : z2 = 0
      · skip
        subst hz2
        obtain ⟨p6_0a, p6_1a, -, -⟩ := two_cells (HBa.out)
        obtain ⟨p7_0b, p7_1b, -, -⟩ := two_cells (HBb.out)
        go_wp2_with fail
        refine (make_zero HIa.out HIb.out).mono ?_
        rintro e w5 ⟨hb5, he5⟩
        have hf5 : e = .returned (.tuple #[.agg #[.bool false, .slice none 0 0, .slice none 0 0], .int .i64 6]) := he5
        clear he5
        subst hf5
        have hR5 := RatV.zero 0 w5
        replace HBa := Kept.mk (HBa.out.below hb5)
        replace HIa := Kept.mk (HIa.out.below hb5)
        replace HBx := Kept.mk (HBx.out.below hb5)
        replace HIx := Kept.mk (HIx.out.below hb5)
        replace HBb := Kept.mk (HBb.out.below hb5)
        replace HIb := Kept.mk (HIb.out.below hb5)
        replace HBy := Kept.mk (HBy.out.below hb5)
        replace HIy := Kept.mk (HIy.out.below hb5)
        replace HW := Kept.mk (HW.out.trans (Below.mono hb5 HW.out.size))
        clear hb5 p6_0a p6_1a p7_0b p7_1b
        have hal8 : Below w5.heap.size w5 (w5.alloc (.cells #[.bool false, .slice none 0 0, .slice none 0 0] 76)) := (Below.refl _ _).alloc (Nat.le_refl _) _
        replace HBa := Kept.mk (HBa.out.below hal8)
        replace HIa := Kept.mk (HIa.out.below hal8)
        replace HBx := Kept.mk (HBx.out.below hal8)
        replace HIx := Kept.mk (HIx.out.below hal8)
        replace HBb := Kept.mk (HBb.out.below hal8)
        replace HIb := Kept.mk (HIb.out.below hal8)
        replace HBy := Kept.mk (HBy.out.below hal8)
        replace HIy := Kept.mk (HIy.out.below hal8)
        replace HW := Kept.mk (HW.out.trans (Below.mono hal8 HW.out.size))
        have HBg : Kept (H3 (w5.alloc (.cells #[.bool false, .slice none 0 0, .slice none 0 0] 76)) w5.heap.size (.bool false) (.slice none 0 0) (.slice none 0 0)) := ⟨H3.new _ _ _ _ _ rfl⟩
        have HIg : Kept (RatV 0 (w5.alloc (.cells #[.bool false, .slice none 0 0, .slice none 0 0] 76)) (.agg #[.bool false, .slice none 0 0, .slice none 0 0]) (0) (1)) := ⟨hR5.below hal8⟩
        clear hal8 hR5
        obtain ⟨p10_0y, p10_1y, -, -⟩ := two_cells (HBy.out)
        go_wp2_with fail
        refine (rsignz_any HIy.out).mono ?_
        rintro e w9 ⟨hb9, he9⟩
        rw [Dg.sg_eq] at he9
        subst he9
        replace HBa := Kept.mk (HBa.out.below hb9)
        replace HIa := Kept.mk (HIa.out.below hb9)
        replace HBx := Kept.mk (HBx.out.below hb9)
        replace HIx := Kept.mk (HIx.out.below hb9)
        replace HBb := Kept.mk (HBb.out.below hb9)
        replace HIb := Kept.mk (HIb.out.below hb9)
        replace HBy := Kept.mk (HBy.out.below hb9)
        replace HIy := Kept.mk (HIy.out.below hb9)
        replace HBg := Kept.mk (HBg.out.below hb9)
        replace HIg := Kept.mk (HIg.out.below hb9)
        replace HW := Kept.mk (HW.out.trans (Below.mono hb9 HW.out.size))
        clear hb9 p10_0y p10_1y
        obtain ⟨p12_0g, p12_1g, p12_2g, -⟩ := three_cells (HBg.out)
        go_wp2_with fail
        refine (rstring_any HIg.out (by decide) (by decide)).mono ?_
        rintro e w11 ⟨hb11, he11⟩
        rw [show str (decR 0 1) = .string ⟨#[48]⟩ from rfl] at he11
        subst he11
        replace HBa := Kept.mk (HBa.out.below hb11)
        replace HIa := Kept.mk (HIa.out.below hb11)
        replace HBx := Kept.mk (HBx.out.below hb11)
        replace HIx := Kept.mk (HIx.out.below hb11)
        replace HBb := Kept.mk (HBb.out.below hb11)
        replace HIb := Kept.mk (HIb.out.below hb11)
        replace HBy := Kept.mk (HBy.out.below hb11)
        replace HIy := Kept.mk (HIy.out.below hb11)
        replace HBg := Kept.mk (HBg.out.below hb11)
        replace HIg := Kept.mk (HIg.out.below hb11)
        replace HW := Kept.mk (HW.out.trans (Below.mono hb11 HW.out.size))
        clear hb11 p12_0g p12_1g p12_2g
        go_wp2_with fail
        refine (awake_any _).mono ?_
        rintro e w13 ⟨hb13, he13⟩
        subst he13
        replace HBa := Kept.mk (HBa.out.below hb13)
        replace HIa := Kept.mk (HIa.out.below hb13)
        replace HBx := Kept.mk (HBx.out.below hb13)
        replace HIx := Kept.mk (HIx.out.below hb13)
        replace HBb := Kept.mk (HBb.out.below hb13)
        replace HIb := Kept.mk (HIb.out.below hb13)
        replace HBy := Kept.mk (HBy.out.below hb13)
        replace HIy := Kept.mk (HIy.out.below hb13)
        replace HBg := Kept.mk (HBg.out.below hb13)
        replace HIg := Kept.mk (HIg.out.below hb13)
        replace HW := Kept.mk (HW.out.trans (Below.mono hb13 HW.out.size))
        clear hb13 
        go_wp2
        go_ret
        exact ⟨HW.out, rfl⟩
      · skip
        obtain ⟨τ, hn0, hτ⟩ : ∃ σ : Int, (σ == 0) = false ∧ Dg.sg z2 0 = σ := by
          refine ⟨_, ?_, rfl⟩
          rcases Int.lt_trichotomy z2 0 with h | h | h
          · rw [Dg.sg_lt h]; rfl
          · exact absurd h hz2
          · rw [Dg.sg_gt h]; rfl
        have Hτ := Kept.mk hτ
        clear hτ
        obtain ⟨FN, hFN⟩ : ∃ x, frN (z1) (z2) = x := ⟨_, rfl⟩
        obtain ⟨FD, hFD⟩ : ∃ x, frD (z1) (z2) = x := ⟨_, rfl⟩
        have hFDp : 0 < FD := by rw [← hFD]; exact frD_pos hz2
        have HFN := Kept.mk hFN
        have HFD := Kept.mk hFD
        clear hFN hFD
        have HNE := Kept.mk hz2
        clear hz2
        obtain ⟨p6_0a, p6_1a, -, -⟩ := two_cells (HBa.out)
        obtain ⟨p7_0b, p7_1b, -, -⟩ := two_cells (HBb.out)
        go_wp2_with fail
        have hc5 := make_any HIa.out HIb.out HNE.out (by decide) (by decide)
        rw [HFN.out, HFD.out] at hc5
        refine hc5.mono ?_
        clear hc5
        rintro e w5 ⟨hb5, v5, rfl, hR5⟩
        obtain ⟨s5, o5, k5, c5, u5, j5, d5, rfl, g1, g2, g3, g4⟩ := hR5.form
        clear g1 g2 g3 g4
        replace HBa := Kept.mk (HBa.out.below hb5)
        replace HIa := Kept.mk (HIa.out.below hb5)
        replace HBx := Kept.mk (HBx.out.below hb5)
        replace HIx := Kept.mk (HIx.out.below hb5)
        replace HBb := Kept.mk (HBb.out.below hb5)
        replace HIb := Kept.mk (HIb.out.below hb5)
        replace HBy := Kept.mk (HBy.out.below hb5)
        replace HIy := Kept.mk (HIy.out.below hb5)
        replace HW := Kept.mk (HW.out.trans (Below.mono hb5 HW.out.size))
        clear hb5 p6_0a p6_1a p7_0b p7_1b
        have hal8 : Below w5.heap.size w5 (w5.alloc (.cells #[.bool s5, .slice o5 k5 c5, .slice u5 j5 d5] 76)) := (Below.refl _ _).alloc (Nat.le_refl _) _
        replace HBa := Kept.mk (HBa.out.below hal8)
        replace HIa := Kept.mk (HIa.out.below hal8)
        replace HBx := Kept.mk (HBx.out.below hal8)
        replace HIx := Kept.mk (HIx.out.below hal8)
        replace HBb := Kept.mk (HBb.out.below hal8)
        replace HIb := Kept.mk (HIb.out.below hal8)
        replace HBy := Kept.mk (HBy.out.below hal8)
        replace HIy := Kept.mk (HIy.out.below hal8)
        replace HW := Kept.mk (HW.out.trans (Below.mono hal8 HW.out.size))
        have HBg : Kept (H3 (w5.alloc (.cells #[.bool s5, .slice o5 k5 c5, .slice u5 j5 d5] 76)) w5.heap.size (.bool s5) (.slice o5 k5 c5) (.slice u5 j5 d5)) := ⟨H3.new _ _ _ _ _ rfl⟩
        have HIg : Kept (RatV (max 625 625) (w5.alloc (.cells #[.bool s5, .slice o5 k5 c5, .slice u5 j5 d5] 76)) (.agg #[.bool s5, .slice o5 k5 c5, .slice u5 j5 d5]) (FN) (FD)) := ⟨hR5.below hal8⟩
        clear hal8 hR5
        obtain ⟨p10_0y, p10_1y, -, -⟩ := two_cells (HBy.out)
        go_wp2_with fail
        refine (rsignz_any HIy.out).mono ?_
        rintro e w9 ⟨hb9, he9⟩
        rw [Hτ.out] at he9
        subst he9
        replace HBa := Kept.mk (HBa.out.below hb9)
        replace HIa := Kept.mk (HIa.out.below hb9)
        replace HBx := Kept.mk (HBx.out.below hb9)
        replace HIx := Kept.mk (HIx.out.below hb9)
        replace HBb := Kept.mk (HBb.out.below hb9)
        replace HIb := Kept.mk (HIb.out.below hb9)
        replace HBy := Kept.mk (HBy.out.below hb9)
        replace HIy := Kept.mk (HIy.out.below hb9)
        replace HBg := Kept.mk (HBg.out.below hb9)
        replace HIg := Kept.mk (HIg.out.below hb9)
        replace HW := Kept.mk (HW.out.trans (Below.mono hb9 HW.out.size))
        clear hb9 p10_0y p10_1y
        go_wp2_with fail
        have HRT : Kept (∀ W, Below w9.heap.size w9 W → Calls Tryz.prog 67 #[(.agg #[.bool sb3, .slice bo3 kb3 cb3]), (.agg #[.bool sb4, .slice bo4 kb4 cb4])] W (RetQ 701 W FN FD)) := ⟨fun W h => by have hc := rratio_any (HIx.out.below h) (HIy.out.below h) HNE.out (by decide) (by decide); rw [HFN.out, HFD.out] at hc; exact hc⟩
        have HEQ : Kept (∀ W u, Below w9.heap.size w9 W → QV 701 W u FN FD → Calls Tryz.prog 61 #[(.agg #[.bool s5, .slice o5 k5 c5, .slice u5 j5 d5]), u] W (RetV W (.bool true))) := ⟨fun W u h hu => requal_any (HIg.out.below h) hu hFDp (by decide) (by decide)⟩
        obtain ⟨ii0g, ii1g, ii2g, -⟩ := three_cells (HBg.out)
        obtain ⟨ii0x, ii1x, -, -⟩ := two_cells (HBx.out)
        obtain ⟨ii0y, ii1y, -, -⟩ := two_cells (HBy.out)
        refine wp_region_held_drew (S := fun w' => w'.cell? ⟨w5.heap.size, 0, none⟩ = some (.bool s5) ∧ w'.cell? ⟨w5.heap.size, 1, none⟩ = some (.slice o5 k5 c5) ∧ w'.cell? ⟨w5.heap.size, 2, none⟩ = some (.slice u5 j5 d5) ∧ w'.cell? ⟨(w3.heap.size + 1), 0, none⟩ = some (.bool sb3) ∧ w'.cell? ⟨(w3.heap.size + 1), 1, none⟩ = some (.slice bo3 kb3 cb3) ∧ w'.cell? ⟨(w4.heap.size + 1), 0, none⟩ = some (.bool sb4) ∧ w'.cell? ⟨(w4.heap.size + 1), 1, none⟩ = some (.slice bo4 kb4 cb4)) (by kernel_rfl) ?_ (fun hHeld => ?_)
        · exact ⟨ii0g, ii1g, ii2g, ii0x, ii1x, ii0y, ii1y⟩
        refine wpAnyH_take (i := 0) (v := ?_) rfl (by kernel_rfl) (by kernel_rfl) (by kernel_rfl) (fun _ _ _ h => h) (Or.inl ⟨by rfl, ?_⟩) (by assumption) ?_
        rotate_left
        · (intro w hSw; (try dsimp only at hSw); go_simp; (try with_reducible rfl))
        try simp only [Act.put, List.getElem_toArray, List.getElem_cons_succ, List.getElem_cons_zero, List.setIfInBounds_toArray, List.set_cons_zero, List.set_cons_succ]
        refine wpAnyH_take (i := 1) (v := ?_) rfl (by kernel_rfl) (by kernel_rfl) (by kernel_rfl) (fun _ _ _ h => h) (Or.inl ⟨by rfl, ?_⟩) (by assumption) ?_
        rotate_left
        · (intro w hSw; (try dsimp only at hSw); go_simp; (try with_reducible rfl))
        try simp only [Act.put, List.getElem_toArray, List.getElem_cons_succ, List.getElem_cons_zero, List.setIfInBounds_toArray, List.set_cons_zero, List.set_cons_succ]
        refine wpAnyH_take (i := 2) (v := ?_) rfl (by kernel_rfl) (by kernel_rfl) (by kernel_rfl) (fun _ _ _ h => h) (Or.inl ⟨by rfl, ?_⟩) (by assumption) ?_
        rotate_left
        · (intro w hSw; (try dsimp only at hSw); go_simp; (try with_reducible rfl))
        try simp only [Act.put, List.getElem_toArray, List.getElem_cons_succ, List.getElem_cons_zero, List.setIfInBounds_toArray, List.set_cons_zero, List.set_cons_succ]
        refine wpAnyH_take (i := 3) (v := ?_) rfl (by kernel_rfl) (by kernel_rfl) (by kernel_rfl) (fun _ _ _ h => h) (Or.inl ⟨by rfl, ?_⟩) (by assumption) ?_
        rotate_left
        · (intro w hSw; (try dsimp only at hSw); go_simp; (try with_reducible rfl))
        try simp only [Act.put, List.getElem_toArray, List.getElem_cons_succ, List.getElem_cons_zero, List.setIfInBounds_toArray, List.set_cons_zero, List.set_cons_succ]
        refine wpAnyH_take (i := 4) (v := ?_) rfl (by kernel_rfl) (by kernel_rfl) (by kernel_rfl) (fun _ _ _ h => h) (Or.inl ⟨by rfl, ?_⟩) (by assumption) ?_
        rotate_left
        · (intro w hSw; (try dsimp only at hSw); go_simp; (try with_reducible rfl))
        try simp only [Act.put, List.getElem_toArray, List.getElem_cons_succ, List.getElem_cons_zero, List.setIfInBounds_toArray, List.set_cons_zero, List.set_cons_succ]
        refine wpAnyH_take (i := 5) (v := ?_) rfl (by kernel_rfl) (by kernel_rfl) (by kernel_rfl) (fun _ _ _ h => h) (Or.inl ⟨by rfl, ?_⟩) (by assumption) ?_
        rotate_left
        · (intro w hSw; (try dsimp only at hSw); go_simp; (try with_reducible rfl))
        try simp only [Act.put, List.getElem_toArray, List.getElem_cons_succ, List.getElem_cons_zero, List.setIfInBounds_toArray, List.set_cons_zero, List.set_cons_succ]
        refine wpAnyH_ready (rs := [6]) (by kernel_rfl) (by simp) ?_
        refine AllReadyH.cons rfl (fun K hK => ?_) AllReadyH.nil
        go_simp
        refine (HRT.out _ ?h1).mono ?_
        case h1 => exact ((Bxs.start w9).drew).1
        rintro e wB1' ⟨hbB1, v1', rfl, hV1⟩
        have hyB1 := Bxs.below ((Bxs.start w9).drew) hbB1
        obtain ⟨ja0g, ja1g, ja2g, -⟩ := three_cells (HBg.out.below hyB1.1)
        obtain ⟨ja0x, ja1x, -, -⟩ := two_cells (HBx.out.below hyB1.1)
        obtain ⟨ja0y, ja1y, -, -⟩ := two_cells (HBy.out.below hyB1.1)
        refine hK.out _ _ ?_ (fun hHeld => ?_)
        · exact ⟨ja0g, ja1g, ja2g, ja0x, ja1x, ja0y, ja1y⟩
        clear hK K
        try simp only [Act.put, List.getElem_toArray, List.getElem_cons_succ, List.getElem_cons_zero, List.setIfInBounds_toArray, List.set_cons_zero, List.set_cons_succ]
        refine wpAnyH_ready (rs := [7]) (by kernel_rfl) (by simp) ?_
        refine AllReadyH.cons rfl (fun K hK => ?_) AllReadyH.nil
        go_simp
        refine (HEQ.out _ _ ?h1 ?h2).mono ?_
        case h1 => exact hyB1.1
        case h2 => exact hV1
        rintro e wB2' ⟨hbB2, rfl⟩
        have hyB2 := Bxs.below hyB1 hbB2
        obtain ⟨jb0g, jb1g, jb2g, -⟩ := three_cells (HBg.out.below hyB2.1)
        obtain ⟨jb0x, jb1x, -, -⟩ := two_cells (HBx.out.below hyB2.1)
        obtain ⟨jb0y, jb1y, -, -⟩ := two_cells (HBy.out.below hyB2.1)
        refine hK.out _ _ ?_ (fun hHeld => ?_)
        · exact ⟨jb0g, jb1g, jb2g, jb0x, jb1x, jb0y, jb1y⟩
        clear hK K
        try simp only [Act.put, List.getElem_toArray, List.getElem_cons_succ, List.getElem_cons_zero, List.setIfInBounds_toArray, List.set_cons_zero, List.set_cons_succ]
        refine wpAnyH_take (i := 8) (v := ?_) rfl (by kernel_rfl) (by kernel_rfl) (by kernel_rfl) (fun _ _ _ h => h) (Or.inl ⟨by rfl, ?_⟩) (by assumption) ?_
        rotate_left
        · (intro w hSw; (try dsimp only at hSw); go_simp; (try with_reducible rfl))
        try simp only [Act.put, List.getElem_toArray, List.getElem_cons_succ, List.getElem_cons_zero, List.setIfInBounds_toArray, List.set_cons_zero, List.set_cons_succ]
        refine wpAnyH_take (i := 9) (v := ?_) rfl (by kernel_rfl) (by kernel_rfl) (by kernel_rfl) (fun _ _ _ h => h) (Or.inl ⟨by rfl, ?_⟩) (by assumption) ?_
        rotate_left
        · (intro w hSw; (try dsimp only at hSw); go_simp; (try with_reducible rfl))
        try simp only [Act.put, List.getElem_toArray, List.getElem_cons_succ, List.getElem_cons_zero, List.setIfInBounds_toArray, List.set_cons_zero, List.set_cons_succ]
        refine wpAnyH_ready (rs := [10]) (by kernel_rfl) (by simp) ?_
        refine AllReadyH.cons rfl (fun K hK => ?_) AllReadyH.nil
        go_simp
        refine (awake_any _).mono ?_
        rintro e wB3' ⟨hbB3, rfl⟩
        have hyB3 := Bxs.below hyB2 hbB3
        obtain ⟨jc0g, jc1g, jc2g, -⟩ := three_cells (HBg.out.below hyB3.1)
        obtain ⟨jc0x, jc1x, -, -⟩ := two_cells (HBx.out.below hyB3.1)
        obtain ⟨jc0y, jc1y, -, -⟩ := two_cells (HBy.out.below hyB3.1)
        refine hK.out _ _ ?_ (fun hHeld => ?_)
        · exact ⟨jc0g, jc1g, jc2g, jc0x, jc1x, jc0y, jc1y⟩
        clear hK K
        try simp only [Act.put, List.getElem_toArray, List.getElem_cons_succ, List.getElem_cons_zero, List.setIfInBounds_toArray, List.set_cons_zero, List.set_cons_succ]
        refine wpAnyH_take (i := 11) (v := ?_) rfl (by kernel_rfl) (by kernel_rfl) (by kernel_rfl) (fun _ _ _ h => h) (Or.inl ⟨by rfl, ?_⟩) (by assumption) ?_
        rotate_left
        · (intro w hSw; (try dsimp only at hSw); go_simp; (try with_reducible rfl))
        try simp only [Act.put, List.getElem_toArray, List.getElem_cons_succ, List.getElem_cons_zero, List.setIfInBounds_toArray, List.set_cons_zero, List.set_cons_succ]
        refine wpAnyH_take (i := 12) (v := ?_) rfl (by kernel_rfl) (by kernel_rfl) (by kernel_rfl) (fun _ _ _ h => h) (Or.inl ⟨by rfl, ?_⟩) (by assumption) ?_
        rotate_left
        · (intro w hSw; (try dsimp only at hSw); go_simp; (try with_reducible rfl))
        try simp only [Act.put, List.getElem_toArray, List.getElem_cons_succ, List.getElem_cons_zero, List.setIfInBounds_toArray, List.set_cons_zero, List.set_cons_succ]
        refine wpAnyH_done (by kernel_rfl) ?_ _
        have hfin : Below w.heap.size w wB3' := HW.out.trans (hyB3.1.mono HW.out.size)
        have HFIN := Kept.mk hfin
        go_wp2
        go_ret
        exact ⟨HFIN.out, rfl⟩
theorem tallyMakes_any (n d : Int) (s t : ByteArray) (w : World) (hn0 : -9223372036854775808 ≤ n) (hn1 : n ≤ 9223372036854775807) (hd0 : -9223372036854775808 ≤ d) (hd1 : d ≤ 9223372036854775807) (hs : s.size ≤ 140737488355328) (ht : t.size ≤ 140737488355328) :
    Calls Tryz.prog 12 #[.agg #[.int .i64 n, .int .i64 d], .string s, .string t] w (RetV w (.bool true)) := by
  by_cases hd : d = 0
  · exact makes_zero n d s t w hn0 hn1 hd0 hd1 hs ht hd
  · exact makes_some n d s t w hn0 hn1 hd0 hd1 hs ht hd
end Go.Proofs.YtblbheilddafbaaGreatDoor

set_option linter.unusedVariables false
namespace Go.Proofs.YtblbheilddafbaaGreatDoor.tallyMakes
open Go Go.ChangeShapes Go.WideShapes Go.ChangeAt Go.RowKit Go.Proofs.YtblbheilddafbaaGreatDoor
open Go.ChangeMaps (open_string shut_string)
set_option maxRecDepth 100000 in
theorem contract (H : Type) (enc : TypeId × Value → H) (W : World) (base : Nat) (args : Array Value) (ds gs : List (DataW H)) (before : List MemPlace)
    (hval : ∀ (j : Nat) t v, Tryz.f12.params[j]? = some t → args[j]? = some v → Value.okWide Tryz.prog W .any base t v)
    (hW : DataW.Whole enc Tryz.prog Tryz.f12.params.toList Rows.tallyMakesSpec.vars false W args.toList ds gs before) (ts : List TypeId) (hsz : (DataW.weightsEach Tryz.prog (Tryz.f12.params.toList ++ ts) (ds ++ gs)).all (· ≤ reachBytes) = true) :
    Calls Tryz.prog 12 args W fun e W' => ∃ v, e = .returned v ∧ Rows.tallyMakesSpec.post enc Tryz.prog Tryz.f12 false true false false W args v W' := by
  have hW' := hW
  obtain ⟨p, q, hA0, hV, rfl, hfz, hnd⟩ := hW
  have hA : DataW.TrodAll enc Tryz.prog W 0 (fun _ => true) true Tryz.f12.params.toList args.toList ds p := hA0
  rw [Tryz.params12] at hA hval hsz
  obtain ⟨v0, vs0, d0, ds0, p0, q0, hargs, rfl, rfl, h0, r0⟩ := trodAll_cons hA
  obtain ⟨v1, vs1, d1, ds1, p1, q1, rfl, rfl, rfl, h1, r1⟩ := trodAll_cons r0
  obtain ⟨v2, vs2, d2, ds2, p2, q2, rfl, rfl, rfl, h2, r2⟩ := trodAll_cons r1
  obtain ⟨rfl, rfl, rfl⟩ := trodAll_nil r2
  obtain rfl : args = #[v0, v1, v2] := Array.toList_inj.1 hargs
  obtain ⟨rfl, rfl⟩ := trodVars_none hV
  obtain ⟨a0, b0, rfl, rfl, rfl, w0, x0⟩ := open_pair Tryz.underlying84 Tryz.underlying2 (show Tryz.prog.cellsOf 84 = 2 by kernel_rfl) (show Tryz.prog.cellsOf 2 = 1 by kernel_rfl) (hval 0 84 v0 rfl rfl) h0
  obtain ⟨a1, rfl, rfl, rfl, w1⟩ := open_string Tryz.underlying9 (hval 1 9 v1 rfl rfl) h1
  obtain ⟨a2, rfl, rfl, rfl, w2⟩ := open_string Tryz.underlying9 (hval 2 9 v2 rfl rfl) h2
  clear hA0
  simp only [List.append_nil] at hW'
  have hr0 := i64_bounds w0
  have hs0 := i64_bounds x0
  have hr1 : a1.size ≤ 140737488355328 := by
    have h := sized_string hsz (j := 1) (t := 9) (bytes := a1.data.toList) rfl rfl
    have hl : a1.data.toList.length = a1.size := Array.length_toList
    have hq := reachBytes_lt
    omega
  have hr2 : a2.size ≤ 140737488355328 := by
    have h := sized_string hsz (j := 2) (t := 9) (bytes := a2.data.toList) rfl rfl
    have hl : a2.data.toList.length = a2.size := Array.length_toList
    have hq := reachBytes_lt
    omega
  refine (tallyMakes_any a0 b0 a1 a2 W hr0.1 hr0.2 hs0.1 hs0.2 hr1 hr2).mono fun e W' ⟨hb, he⟩ => ?_
  subst he
  exact ⟨_, rfl, post_of_below (pa := []) (pv := []) hW' (fun _ _ _ => trodAll_cons_mk (shut_bool Tryz.underlying4 _) trodAll_mk0) (fun _ _ => trodAll_cons_mk (shut_pair Tryz.underlying84 Tryz.underlying2 (show Tryz.prog.cellsOf 84 = 2 by kernel_rfl) (show Tryz.prog.cellsOf 2 = 1 by kernel_rfl) w0 x0) (trodAll_cons_mk (shut_string Tryz.underlying9 w1) (trodAll_cons_mk (shut_string Tryz.underlying9 w2) trodAll_mk0))) (fun _ _ => rfl) rfl
    hb (ok_one (by kernel_rfl) rfl (okWide_bool_mk Tryz.underlying4 _))⟩
end Go.Proofs.YtblbheilddafbaaGreatDoor.tallyMakes
