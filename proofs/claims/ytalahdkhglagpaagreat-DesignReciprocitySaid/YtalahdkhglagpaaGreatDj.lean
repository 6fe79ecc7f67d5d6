import Derived.Test.YtalahdkhglagpaaGreatDi
set_option linter.unusedVariables false
set_option linter.unusedSimpArgs false
namespace Go.Proofs.YtalahdkhglagpaaGreat
open Go Go.RowKit Go.Deep
open Dnt
set_option maxRecDepth 20000 in
set_option maxHeartbeats 4000000 in
theorem legendre_any (u p : Int) (w : World) (hp : 3 ≤ p ∧ p ≤ 1000000) (hu : -1000000 ≤ u ∧ u ≤ 1000000) :
    Calls Tryz.prog 33 #[.int .i64 u, .int .i64 p] w (fun e' w' => w = w' ∧ e' = .returned (.int .i64 (lgF u p))) := by
  obtain ⟨q, rfl⟩ : ∃ q : Nat, p = q := ⟨p.toNat, by omega⟩
  obtain ⟨m, hm⟩ : ∃ m : Nat, ((q : Int) - 1).tdiv 2 = m := ⟨(((q : Int) - 1).tdiv 2).toNat, by rw [Int.toNat_of_nonneg (Int.tdiv_nonneg (by omega) (by omega))]⟩
  have hmE : Kept (m = (((q : Int) - 1) / 2).toNat) := ⟨by rw [← Int.tdiv_eq_ediv_of_nonneg (by omega), hm]; rfl⟩
  have hm1 : m ≤ 1000000 := by
    have h1 := hmE.out
    omega
  have hqz : ¬ ((q : Int) = 0) := by omega
  have w0' : IntKind.i64.wrap (u.tmod (q : Int) + q) = u.tmod (q : Int) + q := by have := tmod_abs u (show 0 < (q : Int) by omega); exact wrapB (by omega) (by omega)
  obtain ⟨y0, hy0⟩ : ∃ y0, (u.tmod (q : Int) + q).tmod (q : Int) = y0 := ⟨_, rfl⟩
  have hyb : 0 ≤ y0 ∧ y0 < q := by
    have h1 := tmod_abs u (show 0 < (q : Int) by omega)
    rw [← hy0, Int.tmod_eq_emod_of_nonneg (by omega)]
    exact ⟨Int.emod_nonneg _ (by omega), Int.emod_lt_of_pos _ (by omega)⟩
  have hye : y0 % (q : Int) = u % q := by rw [← hy0, tmod_emod, Int.add_emod_right, tmod_emod]
  have HP := Kept.mk (show PwAt u q m 1 y0 m ∧ (0 ≤ y0 ∧ y0 ≤ 1000000) ∧ (0 ≤ (1 : Int) ∧ (1 : Int) < q) from ⟨PwAt.start u q m y0 hye, by omega, by omega, by omega⟩)
  clear hyb hye
  obtain ⟨f, hf⟩ : ∃ f, lgF u q = f := ⟨_, rfl⟩
  rw [hf]
  have HFF := Kept.mk hf
  clear hu hf
  go_enter Tryz.func33, Tryz.ntmps33
  go_wp2
  go_loopw [0, 5, 6] (fun yv xv ev wr => ∃ (x y : Int) (e : Nat), yv = .int .i64 y ∧ xv = .int .i64 x ∧ ev = .int .i64 e ∧ e ≤ 1000000 ∧ Kept (PwAt u q m x y e ∧ (0 ≤ y ∧ y ≤ 1000000) ∧ (0 ≤ x ∧ x < q)) ∧ wr = w) (fun _ _ ev _ => intAbs ev)
  case atStart => exact ⟨1, y0, m, rfl, rfl, rfl, hm1, HP, rfl⟩
  case round =>
    obtain ⟨x, y, e, rfl, rfl, rfl, hem, hs, rfl⟩ := hrel
    obtain ⟨hpw, hy, hx⟩ := hs.out
    by_cases he : e = 0
    · subst he
      have hfin := hpw.done
      have hres : eul u q = decide (x = 1) := by
        unfold eul
        rw [← hmE.out, ← hfin, Int.emod_eq_of_lt hx.1 hx.2]
      clear hfin hpw hs HP
      by_cases h1 : x = 1
      · have e5 : (x == 1) = true := beq_iff_eq.2 h1
        have HF : Kept (f = 1) := ⟨HFF.out.symm.trans (if_pos (by rw [hres]; exact decide_eq_true h1))⟩
        clear hres h1
        go_wp2
        go_ret
        exact ⟨rfl, by rw [HF.out]; rfl⟩
      · have e5 : (x == 1) = false := beq_eq_false_iff_ne.2 h1
        have HF : Kept (f = -1) := ⟨HFF.out.symm.trans (if_neg (by rw [hres]; simp [h1]))⟩
        clear hres h1
        go_wp2
        go_ret
        exact ⟨rfl, by rw [HF.out]; rfl⟩
    · have he0 : (e : Int) > 0 := by omega
      obtain ⟨r, hr⟩ : ∃ r : Nat, e / 2 = r := ⟨_, rfl⟩
      have hrt : (e : Int).tdiv 2 = r := by rw [Int.tdiv_eq_ediv_of_nonneg (by omega)]; omega
      have hyy := mul_small (x := y) (y := y) (by omega) (by omega)
      have hxy := mul_small (x := x) (y := y) (by omega) (by omega)
      obtain ⟨yy, hyy'⟩ : ∃ z, y * y = z := ⟨_, rfl⟩
      obtain ⟨xy, hxy'⟩ : ∃ z, x * y = z := ⟨_, rfl⟩
      rw [hyy'] at hyy
      rw [hxy'] at hxy
      obtain ⟨y2, hy2⟩ : ∃ z, yy.tmod (q : Int) = z := ⟨_, rfl⟩
      obtain ⟨x2, hx2⟩ : ∃ z, xy.tmod (q : Int) = z := ⟨_, rfl⟩
      have hy2b : 0 ≤ y2 ∧ y2 < q := by rw [← hy2, Int.tmod_eq_emod_of_nonneg (by rw [← hyy']; exact Int.mul_nonneg (by omega) (by omega))]; exact ⟨Int.emod_nonneg _ (by omega), Int.emod_lt_of_pos _ (by omega)⟩
      have hx2b : 0 ≤ x2 ∧ x2 < q := by rw [← hx2, Int.tmod_eq_emod_of_nonneg (by rw [← hxy']; exact Int.mul_nonneg (by omega) (by omega))]; exact ⟨Int.emod_nonneg _ (by omega), Int.emod_lt_of_pos _ (by omega)⟩
      have w1' : IntKind.i64.wrap yy = yy := wrapB (by omega) (by omega)
      have w2' : IntKind.i64.wrap xy = xy := wrapB (by omega) (by omega)
      by_cases ho : e % 2 = 1
      · have e4 : (e : Int).tmod 2 = 1 := by rw [Int.tmod_eq_emod_of_nonneg (by omega)]; omega
        have HN : Kept (PwAt u q m x2 y2 r ∧ (0 ≤ y2 ∧ y2 ≤ 1000000) ∧ (0 ≤ x2 ∧ x2 < q)) := ⟨by have := hpw.odd ho; rw [hyy', hxy', hy2, hx2, hr] at this; exact this, by omega, hx2b⟩
        clear hpw hs HP ho hx hy
        go_wp2
        go_roundw
        case rel => exact ⟨x2, y2, r, rfl, rfl, rfl, by omega, HN, trivial⟩
        case measure => simp [intAbs] <;> omega
      · have e4 : (e : Int).tmod 2 = 0 := by rw [Int.tmod_eq_emod_of_nonneg (by omega)]; omega
        have HN : Kept (PwAt u q m x y2 r ∧ (0 ≤ y2 ∧ y2 ≤ 1000000) ∧ (0 ≤ x ∧ x < q)) := ⟨by have := hpw.even ho; rw [hyy', hy2, hr] at this; exact this, by omega, hx⟩
        clear hpw hs HP ho hy hxy hxy' hx2 hx2b w2'
        go_wp2
        go_roundw
        case rel => exact ⟨x, y2, r, rfl, rfl, rfl, by omega, HN, trivial⟩
        case measure => simp [intAbs] <;> omega
/-- The error of an equation's numbers. -/
def rgF (a b : Int) : Nat := if a = 0 ∨ b = 0 then 6 else if a < -1000000 ∨ a > 1000000 ∨ b < -1000000 ∨ b > 1000000 then 1 else 0
set_option maxRecDepth 20000 in
set_option maxHeartbeats 1000000 in
theorem checkEquation_any (a b : Int) (w : World) : Calls Tryz.prog 26 #[.int .i64 a, .int .i64 b] w (fun e w' => w = w' ∧ e = .returned (.int .i64 (rgF a b : Nat))) := by
  obtain ⟨c, hc⟩ : ∃ c, rgF a b = c := ⟨_, rfl⟩
  rw [hc]
  have HC := Kept.mk hc
  clear hc
  have fin : ∀ n : Nat, rgF a b = n → (Ending.returned (Value.int .i64 (n : Int)) = Ending.returned (Value.int .i64 (c : Nat))) := fun n h => by rw [← HC.out, h]
  have HFN := Kept.mk fin
  clear fin
  by_cases h : a = 0
  · have HF := Kept.mk (HFN.out 6 (if_pos (.inl h)))
    have e1 : (a == 0) = true := beq_iff_eq.2 h
    clear h
    go_enter Tryz.func26, Tryz.ntmps26
    go_wp2
    go_ret
    exact ⟨rfl, HF.out⟩
  have ha0 := h
  have e1 : (a == 0) = false := beq_eq_false_iff_ne.2 h
  clear h
  by_cases h : b = 0
  · have HF := Kept.mk (HFN.out 6 (if_pos (.inr h)))
    have e2 : (b == 0) = true := beq_iff_eq.2 h
    clear h ha0
    go_enter Tryz.func26, Tryz.ntmps26
    go_wp2
    go_ret
    exact ⟨rfl, HF.out⟩
  have e2 : (b == 0) = false := beq_eq_false_iff_ne.2 h
  have HZ : Kept (¬ (a = 0 ∨ b = 0)) := ⟨fun h' => h'.elim ha0 h⟩
  clear h ha0
  have F1 : Kept (∀ h : a < -1000000 ∨ a > 1000000 ∨ b < -1000000 ∨ b > 1000000, rgF a b = 1) := ⟨fun h => by unfold rgF; rw [if_neg HZ.out, if_pos h]⟩
  by_cases h : a < -1000000
  · have HF := Kept.mk (HFN.out 1 (F1.out (by omega)))
    have e3 : decide (a < -1000000) = true := decide_eq_true h
    clear h
    go_enter Tryz.func26, Tryz.ntmps26
    go_wp2
    go_ret
    exact ⟨rfl, HF.out⟩
  have e3 : decide (a < -1000000) = false := decide_eq_false h
  have g3 := Kept.mk h
  clear h
  by_cases h : a > 1000000
  · have HF := Kept.mk (HFN.out 1 (F1.out (by omega)))
    have e4 : decide (a > 1000000) = true := decide_eq_true h
    clear h
    go_enter Tryz.func26, Tryz.ntmps26
    go_wp2
    go_ret
    exact ⟨rfl, HF.out⟩
  have e4 : decide (a > 1000000) = false := decide_eq_false h
  have g4 := Kept.mk h
  clear h
  by_cases h : b < -1000000
  · have HF := Kept.mk (HFN.out 1 (F1.out (by omega)))
    have e5 : decide (b < -1000000) = true := decide_eq_true h
    clear h
    go_enter Tryz.func26, Tryz.ntmps26
    go_wp2
    go_ret
    exact ⟨rfl, HF.out⟩
  have e5 : decide (b < -1000000) = false := decide_eq_false h
  have g5 := Kept.mk h
  clear h
  by_cases h : b > 1000000
  · have HF := Kept.mk (HFN.out 1 (F1.out (by omega)))
    have e6 : decide (b > 1000000) = true := decide_eq_true h
    clear h
    go_enter Tryz.func26, Tryz.ntmps26
    go_wp2
    go_ret
    exact ⟨rfl, HF.out⟩
  have e6 : decide (b > 1000000) = false := decide_eq_false h
  have g6 := Kept.mk h
  clear h
  have HF := Kept.mk (HFN.out 0 (by unfold rgF; rw [if_neg HZ.out, if_neg (by have := g3.out; have := g4.out; have := g5.out; have := g6.out; omega)]))
  go_enter Tryz.func26, Tryz.ntmps26
  go_wp2
  go_ret
  exact ⟨rfl, HF.out⟩
set_option maxRecDepth 20000 in
set_option maxHeartbeats 1000000 in
theorem rrange_any (a b : Int) (w : World) : Calls Tryz.prog 15 #[.int .i64 a, .int .i64 b] w (fun e w' => w = w' ∧ e = .returned (.int .i64 (rgF a b : Nat))) := by
  obtain ⟨c, hc⟩ : ∃ c, rgF a b = c := ⟨_, rfl⟩
  rw [hc]
  have HC := Kept.mk hc
  clear hc
  have fin : ∀ n : Nat, rgF a b = n → (Ending.returned (Value.int .i64 (n : Int)) = Ending.returned (Value.int .i64 (c : Nat))) := fun n h => by rw [← HC.out, h]
  have HFN := Kept.mk fin
  clear fin
  by_cases h : a = 0
  · have HF := Kept.mk (HFN.out 6 (if_pos (.inl h)))
    have e1 : (a == 0) = true := beq_iff_eq.2 h
    clear h
    go_enter Tryz.func15, Tryz.ntmps15
    go_wp2
    go_ret
    exact ⟨rfl, HF.out⟩
  have ha0 := h
  have e1 : (a == 0) = false := beq_eq_false_iff_ne.2 h
  clear h
  by_cases h : b = 0
  · have HF := Kept.mk (HFN.out 6 (if_pos (.inr h)))
    have e2 : (b == 0) = true := beq_iff_eq.2 h
    clear h ha0
    go_enter Tryz.func15, Tryz.ntmps15
    go_wp2
    go_ret
    exact ⟨rfl, HF.out⟩
  have e2 : (b == 0) = false := beq_eq_false_iff_ne.2 h
  have HZ : Kept (¬ (a = 0 ∨ b = 0)) := ⟨fun h' => h'.elim ha0 h⟩
  clear h ha0
  have F1 : Kept (∀ h : a < -1000000 ∨ a > 1000000 ∨ b < -1000000 ∨ b > 1000000, rgF a b = 1) := ⟨fun h => by unfold rgF; rw [if_neg HZ.out, if_pos h]⟩
  by_cases h : a > 1000000
  · have HF := Kept.mk (HFN.out 1 (F1.out (by omega)))
    have e3 : decide (a > 1000000) = true := decide_eq_true h
    clear h
    go_enter Tryz.func15, Tryz.ntmps15
    go_wp2
    go_ret
    exact ⟨rfl, HF.out⟩
  have e3 : decide (a > 1000000) = false := decide_eq_false h
  have g3 := Kept.mk h
  clear h
  by_cases h : a < -1000000
  · have HF := Kept.mk (HFN.out 1 (F1.out (by omega)))
    have e4 : decide (a < -1000000) = true := decide_eq_true h
    clear h
    go_enter Tryz.func15, Tryz.ntmps15
    go_wp2
    go_ret
    exact ⟨rfl, HF.out⟩
  have e4 : decide (a < -1000000) = false := decide_eq_false h
  have g4 := Kept.mk h
  clear h
  by_cases h : b > 1000000
  · have HF := Kept.mk (HFN.out 1 (F1.out (by omega)))
    have e5 : decide (b > 1000000) = true := decide_eq_true h
    clear h
    go_enter Tryz.func15, Tryz.ntmps15
    go_wp2
    go_ret
    exact ⟨rfl, HF.out⟩
  have e5 : decide (b > 1000000) = false := decide_eq_false h
  have g5 := Kept.mk h
  clear h
  by_cases h : b < -1000000
  · have HF := Kept.mk (HFN.out 1 (F1.out (by omega)))
    have e6 : decide (b < -1000000) = true := decide_eq_true h
    clear h
    go_enter Tryz.func15, Tryz.ntmps15
    go_wp2
    go_ret
    exact ⟨rfl, HF.out⟩
  have e6 : decide (b < -1000000) = false := decide_eq_false h
  have g6 := Kept.mk h
  clear h
  have HF := Kept.mk (HFN.out 0 (by unfold rgF; rw [if_neg HZ.out, if_neg (by have := g3.out; have := g4.out; have := g5.out; have := g6.out; omega)]))
  go_enter Tryz.func15, Tryz.ntmps15
  go_wp2
  go_ret
  exact ⟨rfl, HF.out⟩
/-- Whether a number is a prime. -/
def prI (n : Int) : Prop := 2 ≤ n ∧ isPr n.toNat
open Classical in
set_option maxRecDepth 20000 in
set_option maxHeartbeats 2000000 in
theorem rprime_any (n : Int) (w : World) (hn : n ≤ 1000000) (hm : -9223372036854775808 ≤ n) : Calls Tryz.prog 30 #[.int .i64 n] w (fun e w' => w = w' ∧ e = .returned (.bool (decide (prI n)))) := by
  obtain ⟨t, ht⟩ : ∃ t, decide (prI n) = t := ⟨_, rfl⟩
  rw [ht]
  have HT := Kept.mk ht
  clear ht
  go_enter Tryz.func30, Tryz.ntmps30
  go_wp2
  go_loopw [3] (fun dv wr => ∃ d : Nat, 2 ≤ d ∧ d ≤ 1001 ∧ dv = .int .i64 d ∧ Kept (∀ k : Nat, 2 ≤ k → k < d → n % k ≠ 0) ∧ wr = w) (fun dv _ => 1002 - (intOf dv).toNat)
  case atStart => exact ⟨2, by omega, by omega, rfl, ⟨fun k h1 h2 => by omega⟩, rfl⟩
  case round =>
    obtain ⟨d, h2, hd1, rfl, hall, rfl⟩ := hrel
    obtain ⟨q, hq⟩ : ∃ q, d * d = q := ⟨_, rfl⟩
    have hqb : q ≤ 1001 * 1001 := by rw [← hq]; exact Nat.mul_le_mul hd1 hd1
    have w1' : IntKind.i64.wrap ((d : Int) * d) = q := by rw [← Int.natCast_mul, hq]; exact wrapB (by omega) (by omega)
    by_cases hlt : (q : Int) ≤ n
    · have hd2 : d ≤ 1000 := by
        apply Classical.byContradiction
        intro hc
        have : 1001 * 1001 ≤ d * d := Nat.mul_le_mul (by omega) (by omega)
        omega
      have hdz : ¬ ((d : Int) = 0) := by omega
      have hqd : d + d ≤ q := by
        rw [← hq, ← Nat.two_mul]
        exact Nat.mul_le_mul_right d h2
      by_cases hm0 : n % (d : Int) = 0
      · have e1 : n.tmod (d : Int) = 0 := (int_even (by omega) n).2 hm0
        have HF : Kept (t = false) := ⟨by
          rw [← HT.out]
          refine decide_eq_false fun h => h.2.2 d h2 (by omega) ?_
          have : ((n.toNat : Nat) : Int) = n := Int.toNat_of_nonneg (by omega)
          have h3 : ((n.toNat % d : Nat) : Int) = 0 := by rw [Int.natCast_emod, this]; exact hm0
          omega⟩
        clear hq
        go_wp2
        go_ret
        exact ⟨rfl, by rw [HF.out]; rfl⟩
      · have e1 : ¬ n.tmod (d : Int) = 0 := fun h' => hm0 ((int_even (by omega) n).1 h')
        have e2 : (n.tmod (d : Int) == 0) = false := beq_eq_false_iff_ne.2 e1
        have e3 : (n % (d : Int) == 0) = false := beq_eq_false_iff_ne.2 hm0
        have HA : Kept (∀ k : Nat, 2 ≤ k → k < d + 1 → n % k ≠ 0) := ⟨fun k h3 h4 => by
          by_cases e : k = d
          · rw [e]; exact hm0
          · exact hall.out k h3 (by omega)⟩
        clear hm0 hq
        go_wp2
        go_roundw
        case rel => exact ⟨d + 1, by omega, by omega, by go_num, HA, trivial⟩
        case measure => simp [intOf] <;> omega
    · by_cases h1 : n > 1
      · have HF : Kept (t = true) := ⟨by
          rw [← HT.out]
          refine decide_eq_true ⟨by omega, isPr_of_sqrt (by omega) fun k h3 h4 h5 => ?_⟩
          have hk : ((n.toNat : Nat) : Int) = n := Int.toNat_of_nonneg (by omega)
          refine hall.out k h3 ?_ ?_
          · apply Classical.byContradiction
            intro hc
            have : d * d ≤ k * k := Nat.mul_le_mul (by omega) (by omega)
            omega
          · have : ((n.toNat % k : Nat) : Int) = 0 := by omega
            rwa [Int.natCast_emod, hk] at this⟩
        clear hq
        go_wp2
        go_ret
        exact ⟨rfl, by rw [HF.out]; rfl⟩
      · have HF : Kept (t = false) := ⟨by rw [← HT.out]; exact decide_eq_false fun h => by have := h.1; omega⟩
        clear hq
        go_wp2
        go_ret
        exact ⟨rfl, by rw [HF.out]; rfl⟩
/-- Whether a number is a place. -/
def plI (n : Int) : Prop := n = -1 ∨ n ≤ 1000000 ∧ prI n
open Classical in
set_option maxRecDepth 20000 in
set_option maxHeartbeats 1000000 in
theorem risPlace_any (n : Int) (w : World) (hm : -9223372036854775808 ≤ n) : Calls Tryz.prog 18 #[.int .i64 n] w (fun e w' => w = w' ∧ e = .returned (.bool (decide (plI n)))) := by
  obtain ⟨t, ht⟩ : ∃ t, decide (plI n) = t := ⟨_, rfl⟩
  rw [ht]
  have HT := Kept.mk ht
  clear ht
  by_cases h : n = -1
  · have HF : Kept (t = true) := ⟨by rw [← HT.out]; exact decide_eq_true (.inl h)⟩
    have e1 : (n == -1) = true := beq_iff_eq.2 h
    clear h
    go_enter Tryz.func18, Tryz.ntmps18
    go_wp2
    go_ret
    exact ⟨rfl, by rw [HF.out]; rfl⟩
  have e1 : (n == -1) = false := beq_eq_false_iff_ne.2 h
  by_cases h2 : n ≤ 1000000
  · have HP := Kept.mk (rprime_any n w h2 hm)
    obtain ⟨r, hr⟩ : ∃ r, decide (prI n) = r := ⟨_, rfl⟩
    have HF : Kept (t = r) := ⟨by rw [← HT.out, ← hr]; exact decide_eq_decide.2 ⟨fun h' => h'.elim (fun e => absurd e h) (·.2), fun h' => .inr ⟨h2, h'⟩⟩⟩
    rw [hr] at HP
    have e2 : decide (n ≤ 1000000) = true := decide_eq_true h2
    clear h hr
    go_enter Tryz.func18, Tryz.ntmps18
    go_wp2_with fail
    refine HP.out.mono ?_
    rintro e w1 ⟨rfl, rfl⟩
    go_wp2
    go_ret
    exact ⟨rfl, by rw [HF.out]; rfl⟩
  · have HF : Kept (t = false) := ⟨by rw [← HT.out]; exact decide_eq_false fun h' => h'.elim h (fun h' => h2 h'.1)⟩
    have e2 : decide (n ≤ 1000000) = false := decide_eq_false h2
    clear h h2
    go_enter Tryz.func18, Tryz.ntmps18
    go_wp2
    go_ret
    exact ⟨rfl, by rw [HF.out]; rfl⟩
end Go.Proofs.YtalahdkhglagpaaGreat
