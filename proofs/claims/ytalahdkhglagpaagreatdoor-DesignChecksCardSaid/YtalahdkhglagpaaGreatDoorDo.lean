import Derived.Test.YtalahdkhglagpaaGreatDoorDn
set_option linter.unusedVariables false
set_option linter.unusedSimpArgs false
namespace Go.Proofs.YtalahdkhglagpaaGreatDoor
open Go Go.RowKit Go.Deep
open Dnt
theorem syF_real (a b : Int) : syF a b (-1) = if a < 0 ∧ b < 0 then -1 else 1 := by
  unfold syF
  rw [if_pos rfl]
theorem syF_odd (a b : Int) {p : Int} (hp : 3 ≤ p) : syF a b p = sgF (((vpn p a : Nat) * (vpn p b : Nat) * (p - 1)).tdiv 2 + (vpn p b : Nat) * nsF (vpr p a) p + (vpn p a : Nat) * nsF (vpr p b) p) := by
  unfold syF
  rw [if_neg (by omega), if_neg (by omega)]
theorem nsF_b (u p : Int) : 0 ≤ nsF u p ∧ nsF u p ≤ 1 := by
  unfold nsF
  by_cases h : eul u p = true
  · rw [if_pos h]; omega
  · rw [if_neg h]; omega
/-- The places at which the symbol is asked for. -/
def okPl (p : Int) : Prop := p = -1 ∨ p = 2 ∨ 3 ≤ p ∧ p ≤ 1000000
set_option maxRecDepth 20000 in
set_option maxHeartbeats 4000000 in
theorem symbol_any (a b p : Int) (w : World) (ha0 : a ≠ 0) (hb0 : b ≠ 0) (ha : -1000000 ≤ a ∧ a ≤ 1000000) (hb : -1000000 ≤ b ∧ b ≤ 1000000) (hp : okPl p) :
    Calls Tryz.prog 34 #[.int .i64 a, .int .i64 b, .int .i64 p] w (fun e w' => w = w' ∧ e = .returned (.int .i64 (syF a b p))) := by
  obtain ⟨s, hs⟩ : ∃ s, syF a b p = s := ⟨_, rfl⟩
  rw [hs]
  have HS := Kept.mk hs
  clear hs
  rcases hp with rfl | rfl | hp
  · rw [syF_real] at HS
    by_cases h1 : a < 0
    · have e1 : decide (a < 0) = true := decide_eq_true h1
      by_cases h2 : b < 0
      · have e2 : decide (b < 0) = true := decide_eq_true h2
        have HF : Kept (s = -1) := ⟨by rw [← HS.out, if_pos ⟨h1, h2⟩]⟩
        clear HS
        go_enter Tryz.func34, Tryz.ntmps34
        go_wp2
        go_ret
        exact ⟨rfl, by rw [HF.out]; rfl⟩
      · have e2 : decide (b < 0) = false := decide_eq_false h2
        have HF : Kept (s = 1) := ⟨by rw [← HS.out, if_neg (fun h => h2 h.2)]⟩
        clear HS
        go_enter Tryz.func34, Tryz.ntmps34
        go_wp2
        go_ret
        exact ⟨rfl, by rw [HF.out]; rfl⟩
    · have e1 : decide (a < 0) = false := decide_eq_false h1
      have HF : Kept (s = 1) := ⟨by rw [← HS.out, if_neg (fun h => h1 h.1)]⟩
      clear HS
      go_enter Tryz.func34, Tryz.ntmps34
      go_wp2
      go_ret
      exact ⟨rfl, by rw [HF.out]; rfl⟩
  · have HC := Kept.mk (fun w => symbolAtTwo_any a b w ha0 hb0 ha hb)
    rw [HS.out] at HC
    clear HS
    go_enter Tryz.func34, Tryz.ntmps34
    go_wp2_with fail
    refine (HC.out _).mono ?_
    rintro e w1 ⟨rfl, rfl⟩
    go_wp2
    go_ret
    exact ⟨rfl, rfl⟩
  · rw [syF_odd a b hp.1] at HS
    have hsa := vp_spl (p := p) (by omega) ha0
    have hsb := vp_spl (p := p) (by omega) hb0
    obtain ⟨i, hi⟩ : ∃ i, vpn p a = i := ⟨_, rfl⟩
    obtain ⟨j, hj⟩ : ∃ j, vpn p b = j := ⟨_, rfl⟩
    obtain ⟨u, hu⟩ : ∃ u, vpr p a = u := ⟨_, rfl⟩
    obtain ⟨v, hv⟩ : ∃ v, vpr p b = v := ⟨_, rfl⟩
    rw [hi, hu] at hsa
    rw [hj, hv] at hsb
    rw [hi, hj, hu, hv] at HS
    have hla := hsa.le (by omega) ha0
    have hlb := hsb.le (by omega) hb0
    have hi40 : i ≤ 40 := exp_le hla.2.2.2 (by omega)
    have hj40 : j ≤ 40 := exp_le hlb.2.2.2 (by omega)
    have HSA := Kept.mk (fun w => split_any p a u i w hsa (by omega) ha0 (by omega))
    have HSB := Kept.mk (fun w => split_any p b v j w hsb (by omega) hb0 (by omega))
    have HNU := Kept.mk (fun w => notSquare_any u p w hp (by omega))
    have HNV := Kept.mk (fun w => notSquare_any v p w hp (by omega))
    have hnu := nsF_b u p
    have hnv := nsF_b v p
    obtain ⟨nu, hnu'⟩ : ∃ x, nsF u p = x := ⟨_, rfl⟩
    obtain ⟨nv, hnv'⟩ : ∃ x, nsF v p = x := ⟨_, rfl⟩
    rw [hnu'] at HS HNU hnu
    rw [hnv'] at HS HNV hnv
    have hp1 := hp.1
    have hp2 := hp.2
    clear hi hj hu hv hsa hsb hla hlb ha hb ha0 hb0 hp hnu' hnv'
    obtain ⟨p1, hp1'⟩ : ∃ x, p - 1 = x := ⟨_, rfl⟩
    obtain ⟨t0, ht0⟩ : ∃ x, (i : Int) * (j : Int) = x := ⟨_, rfl⟩
    have b0 : t0.natAbs ≤ 40 * 40 := by rw [← ht0]; exact mulB (by omega) (by omega)
    rw [hp1', ht0] at HS
    obtain ⟨t1, ht1⟩ : ∃ x, t0 * p1 = x := ⟨_, rfl⟩
    have b1 : t1.natAbs ≤ 40 * 40 * 1000000 := by rw [← ht1]; exact mulB b0 (by omega)
    rw [ht1] at HS
    obtain ⟨t4, ht4⟩ : ∃ x, t1.tdiv 2 = x := ⟨_, rfl⟩
    have b4 : t4.natAbs ≤ 1600000000 := by rw [← ht4]; exact Nat.le_trans (tdivB _) (by omega)
    obtain ⟨t2, ht2⟩ : ∃ x, (j : Int) * nu = x := ⟨_, rfl⟩
    obtain ⟨t3, ht3⟩ : ∃ x, (i : Int) * nv = x := ⟨_, rfl⟩
    have b2 : t2.natAbs ≤ 40 * 1 := by rw [← ht2]; exact mulB (by omega) (by omega)
    have b3 : t3.natAbs ≤ 40 * 1 := by rw [← ht3]; exact mulB (by omega) (by omega)
    rw [ht4, ht2, ht3] at HS
    have w0 : IntKind.i64.wrap t0 = t0 := wrapB (by omega) (by omega)
    have w1 : IntKind.i64.wrap p1 = p1 := wrapB (by omega) (by omega)
    have w2 : IntKind.i64.wrap t1 = t1 := wrapB (by omega) (by omega)
    have w3 : IntKind.i64.wrap t4 = t4 := wrapB (by omega) (by omega)
    have w4 : IntKind.i64.wrap t2 = t2 := wrapB (by omega) (by omega)
    have w5 : IntKind.i64.wrap t3 = t3 := wrapB (by omega) (by omega)
    have w6 : IntKind.i64.wrap (t4 + t2) = t4 + t2 := wrapB (by omega) (by omega)
    have w7 : IntKind.i64.wrap (t4 + t2 + t3) = t4 + t2 + t3 := wrapB (by omega) (by omega)
    have HSG := Kept.mk (fun w => sign_any (t4 + t2 + t3) w)
    rw [HS.out] at HSG
    have q1 : (p == -1) = false := beq_eq_false_iff_ne.2 (by omega)
    have q2 : (p == 2) = false := beq_eq_false_iff_ne.2 (by omega)
    clear b0 b1 b2 b3 b4 hi40 hj40 hnu hnv
    go_enter Tryz.func34, Tryz.ntmps34
    go_wp2_with fail
    refine (HSA.out _).mono ?_
    rintro e w1 ⟨rfl, rfl⟩
    go_wp2_with fail
    refine (HSB.out _).mono ?_
    rintro e w1 ⟨rfl, rfl⟩
    go_wp2_with fail
    refine (HNU.out _).mono ?_
    rintro e w1 ⟨rfl, rfl⟩
    go_wp2_with fail
    refine (HNV.out _).mono ?_
    rintro e w1 ⟨rfl, rfl⟩
    go_wp2_with fail
    refine (HSG.out _).mono ?_
    rintro e w1 ⟨rfl, rfl⟩
    go_wp2
    go_ret
    exact ⟨rfl, rfl⟩
end Go.Proofs.YtalahdkhglagpaaGreatDoor
