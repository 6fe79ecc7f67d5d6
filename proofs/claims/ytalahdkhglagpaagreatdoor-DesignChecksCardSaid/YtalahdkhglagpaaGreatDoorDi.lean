import Derived.Test.YtalahdkhglagpaaGreatDoorDc
import Derived.Test.YtalahdkhglagpaaGreatDoorDnt
set_option linter.unusedVariables false
set_option linter.unusedSimpArgs false
namespace Go.Proofs.YtalahdkhglagpaaGreatDoor
open Go Go.RowKit Go.Deep
open Dnt
theorem int_even {p : Int} (hp : 0 < p) (c : Int) : c.tmod p = 0 ↔ c % p = 0 := by
  rw [← tmod_emod c p]
  constructor
  · intro h; rw [h]; simp
  · intro h
    obtain ⟨h1, h2⟩ := tmod_abs c hp
    by_cases h0 : 0 ≤ c.tmod p
    · rwa [Int.emod_eq_of_lt h0 h2] at h
    · rw [← Int.add_emod_right, Int.emod_eq_of_lt (by omega) (by omega)] at h
      omega
def intAbs : Value → Nat
  | .int _ z => z.natAbs
  | _ => 0
set_option maxRecDepth 20000 in
set_option maxHeartbeats 2000000 in
/-- How often p divides n, and the rest (the program's). -/
theorem split_any (p n u : Int) (e : Nat) (w : World) (h : Spl p n e u) (hp : 2 ≤ p) (h0 : n ≠ 0) (hn : -1000000000000 ≤ n ∧ n ≤ 1000000000000) :
    Calls Tryz.prog 46 #[.int .i64 n, .int .i64 p] w (fun e' w' => w = w' ∧ e' = .returned (.tuple #[.int .i64 e, .int .i64 u])) := by
  have HE := Kept.mk (show e ≤ 40 from exp_le (h.le hp h0).2.2.2 (by omega))
  have HS := Kept.mk (And.intro h (And.intro h0 hn))
  have hp0 : ¬ (p = 0) := by omega
  clear h h0 hn
  go_enter Tryz.func46, Tryz.ntmps46
  go_wp2
  go_loopw [0, 4] (fun cv iv wr => ∃ (c : Int) (i k : Nat), cv = .int .i64 c ∧ iv = .int .i64 i ∧ i + k = e ∧ Kept (Spl p c k u ∧ c ≠ 0 ∧ -1000000000000 ≤ c ∧ c ≤ 1000000000000) ∧ wr = w) (fun cv _ _ => intAbs cv)
  case atStart => exact ⟨n, 0, e, rfl, rfl, by omega, HS, rfl⟩
  case round =>
    obtain ⟨c, i, k, rfl, rfl, hik, hs, rfl⟩ := hrel
    obtain ⟨hsp, hc0, hc1, hc2⟩ := hs.out
    have he := HE.out
    by_cases hd : c % p = 0
    · have e1 : c.tmod p = 0 := (int_even (by omega) c).2 hd
      obtain ⟨k', hk', hs'⟩ := hsp.step hp hd
      obtain ⟨hl1, hl2⟩ := tdiv_lt hp hc0 hd
      obtain ⟨q, hq⟩ : ∃ q, c.tdiv p = q := ⟨_, rfl⟩
      rw [hq] at hs' hl1 hl2
      have HS' : Kept (Spl p q k' u ∧ q ≠ 0 ∧ -1000000000000 ≤ q ∧ q ≤ 1000000000000) := ⟨⟨hs', hl2, by omega, by omega⟩⟩
      have hqw : IntKind.i64.wrap q = q := wrapB (by omega) (by omega)
      clear hsp hs' hs HS hd
      go_wp2
      go_roundw
      case rel => exact ⟨q, i + 1, k', by first | rfl | (rw [hqw]), by go_num, by omega, HS', trivial⟩
      case measure => simp only [intAbs]; first | exact hl1 | (simp [hqw]; exact hl1)
    · have e1 : ¬ c.tmod p = 0 := fun h => hd ((int_even (by omega) c).1 h)
      obtain ⟨rfl, rfl⟩ := hsp.stop hp hd
      obtain rfl : i = e := by omega
      have e2 : (c.tmod p == 0) = false := beq_eq_false_iff_ne.2 e1
      clear hsp hs HS hd
      go_wp2
      exact bodyPost_ret (v := .tuple #[.int .i64 i, .int .i64 c]) (by simp [results, Tryz.results46, go_sem]) rfl ⟨rfl, rfl⟩
/-- The sign of a power of -1; whether a number is no square; Legendre's symbol. -/
def sgF (n : Int) : Int := if n % 2 = 0 then 1 else -1
def nsF (u p : Int) : Int := if eul u p = true then 0 else 1
def lgF (u p : Int) : Int := if eul u p = true then 1 else -1
set_option maxRecDepth 20000 in
set_option maxHeartbeats 1000000 in
theorem sign_any (n : Int) (w : World) : Calls Tryz.prog 47 #[.int .i64 n] w (fun e w' => w = w' ∧ e = .returned (.int .i64 (sgF n))) := by
  by_cases h : n % 2 = 0
  · have e1 : n.tmod 2 = 0 := (int_even (by omega) n).2 h
    rw [show sgF n = 1 from if_pos h]
    clear h
    go_enter Tryz.func47, Tryz.ntmps47
    go_wp2
    go_ret
    exact ⟨rfl, rfl⟩
  · have e1 : ¬ n.tmod 2 = 0 := fun h' => h ((int_even (by omega) n).1 h')
    have e2 : (n.tmod 2 == 0) = false := beq_eq_false_iff_ne.2 e1
    rw [show sgF n = -1 from if_neg h]
    clear h
    go_enter Tryz.func47, Tryz.ntmps47
    go_wp2
    go_ret
    exact ⟨rfl, rfl⟩
theorem mul_small {x y : Int} (h1 : -1000001 ≤ x ∧ x ≤ 1000001) (h2 : -1000001 ≤ y ∧ y ≤ 1000001) : -1100000000000 ≤ x * y ∧ x * y ≤ 1100000000000 := by
  have ha : x.natAbs ≤ 1000001 := by omega
  have hb : y.natAbs ≤ 1000001 := by omega
  have hc : (x * y).natAbs ≤ 1000001 * 1000001 := by rw [Int.natAbs_mul]; exact Nat.mul_le_mul ha hb
  omega
set_option maxRecDepth 20000 in
set_option maxHeartbeats 4000000 in
theorem notSquare_any (u p : Int) (w : World) (hp : 3 ≤ p ∧ p ≤ 1000000) (hu : -1000000 ≤ u ∧ u ≤ 1000000) :
    Calls Tryz.prog 48 #[.int .i64 u, .int .i64 p] w (fun e' w' => w = w' ∧ e' = .returned (.int .i64 (nsF u p))) := by
  obtain ⟨q, rfl⟩ : ∃ q : Nat, p = q := ⟨p.toNat, by omega⟩
  obtain ⟨m, hm⟩ : ∃ m : Nat, ((q : Int) - 1).tdiv 2 = m := ⟨(((q : Int) - 1).tdiv 2).toNat, by rw [Int.toNat_of_nonneg (Int.tdiv_nonneg (by omega) (by omega))]⟩
  have hmE : Kept (m = (((q : Int) - 1) / 2).toNat) := ⟨by rw [← Int.tdiv_eq_ediv_of_nonneg (by omega), hm]; rfl⟩
  have hm1 : m ≤ 1000000 := by
    have h1 := hmE.out
    omega
  have hqz : ¬ ((q : Int) = 0) := by omega
  have HP := Kept.mk (show PwAt u q m 1 u m ∧ (-1000000 ≤ u ∧ u ≤ 1000000) ∧ (-(q : Int) < 1 ∧ (1 : Int) < q) from ⟨PwAt.start u q m u rfl, hu, by omega, by omega⟩)
  obtain ⟨f, hf⟩ : ∃ f, nsF u q = f := ⟨_, rfl⟩
  rw [hf]
  have HFF := Kept.mk hf
  clear hu hf
  go_enter Tryz.func48, Tryz.ntmps48
  go_wp2
  go_loopw [0, 5, 6] (fun yv xv ev wr => ∃ (x y : Int) (e : Nat), yv = .int .i64 y ∧ xv = .int .i64 x ∧ ev = .int .i64 e ∧ e ≤ 1000000 ∧ Kept (PwAt u q m x y e ∧ (-1000000 ≤ y ∧ y ≤ 1000000) ∧ (-(q : Int) < x ∧ x < q)) ∧ wr = w) (fun _ _ ev _ => intAbs ev)
  case atStart => exact ⟨1, u, m, rfl, rfl, rfl, hm1, HP, rfl⟩
  case round =>
    obtain ⟨x, y, e, rfl, rfl, rfl, hem, hs, rfl⟩ := hrel
    obtain ⟨hpw, hy, hx⟩ := hs.out
    by_cases he : e = 0
    · subst he
      have hfin := hpw.done
      have hres : eul u q = decide (x = 1 ∨ x = 1 - (q : Int)) := by
        unfold eul
        rw [← hmE.out, ← hfin]
        exact decide_eq_decide.2 (one_iff (by omega) hx.1 hx.2)
      clear hfin hpw hs HP
      by_cases h1 : x = 1
      · have e5 : (x == 1) = true := beq_iff_eq.2 h1
        have HF : Kept (f = 0) := ⟨HFF.out.symm.trans (if_pos (by rw [hres]; exact decide_eq_true (.inl h1)))⟩
        clear hres h1
        go_wp2
        go_ret
        exact ⟨rfl, by rw [HF.out]; rfl⟩
      · have e5 : (x == 1) = false := beq_eq_false_iff_ne.2 h1
        have w1' : IntKind.i64.wrap (1 - (q : Int)) = 1 - (q : Int) := wrapB (by omega) (by omega)
        by_cases h2 : x = 1 - (q : Int)
        · have e6 : (x == 1 - (q : Int)) = true := beq_iff_eq.2 h2
          have HF : Kept (f = 0) := ⟨HFF.out.symm.trans (if_pos (by rw [hres]; exact decide_eq_true (.inr h2)))⟩
          clear hres h1 h2
          go_wp2
          go_ret
          exact ⟨rfl, by rw [HF.out]; rfl⟩
        · have e6 : (x == 1 - (q : Int)) = false := beq_eq_false_iff_ne.2 h2
          have HF : Kept (f = 1) := ⟨HFF.out.symm.trans (if_neg (by rw [hres]; simp [h1, h2]))⟩
          clear hres h1 h2
          go_wp2
          go_ret
          exact ⟨rfl, by rw [HF.out]; rfl⟩
    · have he0 : (e : Int) > 0 := by omega
      obtain ⟨r, hr⟩ : ∃ r : Nat, e / 2 = r := ⟨_, rfl⟩
      have hrt : (e : Int).tdiv 2 = r := by rw [Int.tdiv_eq_ediv_of_nonneg (by omega)]; omega
      have hyy := mul_small (x := y) (y := y) (by omega) (by omega)
      have hxy := mul_small (x := x) (y := y) (by omega) (by omega)
      obtain ⟨yy, hyy'⟩ : ∃ z, y * y = z := ⟨_, rfl⟩
      obtain ⟨xy, hxy'⟩ : ∃ z, x * y = z := ⟨_, rfl⟩
      rw [hyy'] at hyy
      rw [hxy'] at hxy
      obtain ⟨y2, hy2⟩ : ∃ z, yy.tmod (q : Int) = z := ⟨_, rfl⟩
      obtain ⟨x2, hx2⟩ : ∃ z, xy.tmod (q : Int) = z := ⟨_, rfl⟩
      have hy2b : -(q : Int) < y2 ∧ y2 < q := by rw [← hy2]; exact tmod_abs _ (by omega)
      have hx2b : -(q : Int) < x2 ∧ x2 < q := by rw [← hx2]; exact tmod_abs _ (by omega)
      have w1' : IntKind.i64.wrap yy = yy := wrapB (by omega) (by omega)
      have w2' : IntKind.i64.wrap xy = xy := wrapB (by omega) (by omega)
      by_cases ho : e % 2 = 1
      · have e4 : (e : Int).tmod 2 = 1 := by rw [Int.tmod_eq_emod_of_nonneg (by omega)]; omega
        have HN : Kept (PwAt u q m x2 y2 r ∧ (-1000000 ≤ y2 ∧ y2 ≤ 1000000) ∧ (-(q : Int) < x2 ∧ x2 < q)) := ⟨by have := hpw.odd ho; rw [hyy', hxy', hy2, hx2, hr] at this; exact this, by omega, hx2b⟩
        clear hpw hs HP ho hx hy
        go_wp2
        go_roundw
        case rel => exact ⟨x2, y2, r, rfl, rfl, rfl, by omega, HN, trivial⟩
        case measure => simp [intAbs] <;> omega
      · have e4 : (e : Int).tmod 2 = 0 := by rw [Int.tmod_eq_emod_of_nonneg (by omega)]; omega
        have HN : Kept (PwAt u q m x y2 r ∧ (-1000000 ≤ y2 ∧ y2 ≤ 1000000) ∧ (-(q : Int) < x ∧ x < q)) := ⟨by have := hpw.even ho; rw [hyy', hy2, hr] at this; exact this, by omega, hx⟩
        clear hpw hs HP ho hy hxy hxy' hx2 hx2b w2'
        go_wp2
        go_roundw
        case rel => exact ⟨x, y2, r, rfl, rfl, rfl, by omega, HN, trivial⟩
        case measure => simp [intAbs] <;> omega
end Go.Proofs.YtalahdkhglagpaaGreatDoor
