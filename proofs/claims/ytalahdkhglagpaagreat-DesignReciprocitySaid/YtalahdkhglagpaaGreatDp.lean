import Derived.Test.YtalahdkhglagpaaGreatDo
set_option linter.unusedVariables false
set_option linter.unusedSimpArgs false
namespace Go.Proofs.YtalahdkhglagpaaGreat
open Go Go.RowKit Go.Deep
open Dnt
set_option maxRecDepth 20000 in
set_option maxHeartbeats 2000000 in
/-- How often p divides n, and the rest (the reference's), at a number of any size. -/
theorem lgF_or (u p : Int) : lgF u p = 1 ∨ lgF u p = -1 := by
  unfold lgF
  by_cases h : eul u p = true
  · exact .inl (if_pos h)
  · exact .inr (if_neg h)
theorem sg1 {n : Int} (h : n % 2 = 0) : sgF n = 1 := if_pos h
theorem sg0 {n : Int} (h : ¬ n % 2 = 0) : sgF n = -1 := if_neg h
set_option maxRecDepth 20000 in
set_option maxHeartbeats 16000000 in
theorem rsymbol_any (a b p : Int) (w : World) (ha0 : a ≠ 0) (hb0 : b ≠ 0) (ha : -1000000 ≤ a ∧ a ≤ 1000000) (hb : -1000000 ≤ b ∧ b ≤ 1000000) (hp : okPl p) (hodd : 3 ≤ p → p % 2 = 1) :
    Calls Tryz.prog 19 #[.int .i64 a, .int .i64 b, .int .i64 p] w (fun e w' => w = w' ∧ e = .returned (.int .i64 (syF a b p))) := by
  obtain ⟨s, hs⟩ : ∃ s, syF a b p = s := ⟨_, rfl⟩
  rw [hs]
  have HS := Kept.mk hs
  clear hs
  rcases hp with rfl | rfl | hp
  · rw [syF_real] at HS
    by_cases h1 : a < 0
    · have e1 : decide (a < 0) = true := decide_eq_true h1
      by_cases h2 : b < 0
      · have e2 : decide (b < 0) = true := decide_eq_true h2
        have HF : Kept (s = -1) := ⟨by rw [← HS.out, if_pos ⟨h1, h2⟩]⟩
        clear HS
        go_enter Tryz.func19, Tryz.ntmps19
        go_wp2
        go_ret
        exact ⟨rfl, by rw [HF.out]; rfl⟩
      · have e2 : decide (b < 0) = false := decide_eq_false h2
        have HF : Kept (s = 1) := ⟨by rw [← HS.out, if_neg (fun h => h2 h.2)]⟩
        clear HS
        go_enter Tryz.func19, Tryz.ntmps19
        go_wp2
        go_ret
        exact ⟨rfl, by rw [HF.out]; rfl⟩
    · have e1 : decide (a < 0) = false := decide_eq_false h1
      have HF : Kept (s = 1) := ⟨by rw [← HS.out, if_neg (fun h => h1 h.1)]⟩
      clear HS
      go_enter Tryz.func19, Tryz.ntmps19
      go_wp2
      go_ret
      exact ⟨rfl, by rw [HF.out]; rfl⟩
  · have hsa := vp_spl (p := 2) (by omega) ha0
    have hsb := vp_spl (p := 2) (by omega) hb0
    obtain ⟨i, hi⟩ : ∃ i, vpn 2 a = i := ⟨_, rfl⟩
    obtain ⟨j, hj⟩ : ∃ j, vpn 2 b = j := ⟨_, rfl⟩
    obtain ⟨u, hu⟩ : ∃ u, vpr 2 a = u := ⟨_, rfl⟩
    obtain ⟨v, hv⟩ : ∃ v, vpr 2 b = v := ⟨_, rfl⟩
    rw [hi, hu] at hsa
    rw [hj, hv] at hsb
    have hla := hsa.le (by omega) ha0
    have hlb := hsb.le (by omega) hb0
    have hi40 : i ≤ 40 := exp_le hla.2.2.2 (by omega)
    have hj40 : j ≤ 40 := exp_le hlb.2.2.2 (by omega)
    have HSA := Kept.mk (fun w => part_any 2 a u i w hsa (by omega) ha0 (by omega))
    have HSB := Kept.mk (fun w => part_any 2 b v j w hsb (by omega) hb0 (by omega))
    have hub : u.natAbs ≤ 1000000 := by omega
    have hvb : v.natAbs ≤ 1000000 := by omega
    replace HS : Kept (sgF ((u - 1).tdiv 2 * (v - 1).tdiv 2 + (i : Nat) * (v * v - 1).tdiv 8 + (j : Nat) * (u * u - 1).tdiv 8) = s) := ⟨by
      rw [← HS.out, ← hi, ← hj, ← hu, ← hv]
      rfl⟩
    clear hi hj hu hv hsa hsb hla hlb ha hb ha0 hb0
    obtain ⟨u1, hu1⟩ : ∃ x, u - 1 = x := ⟨_, rfl⟩
    obtain ⟨v1, hv1⟩ : ∃ x, v - 1 = x := ⟨_, rfl⟩
    obtain ⟨uu, huu⟩ : ∃ x, u * u = x := ⟨_, rfl⟩
    obtain ⟨vv, hvv⟩ : ∃ x, v * v = x := ⟨_, rfl⟩
    have b1 : uu.natAbs ≤ 1000000 * 1000000 := by rw [← huu]; exact mulB hub hub
    have b2 : vv.natAbs ≤ 1000000 * 1000000 := by rw [← hvv]; exact mulB hvb hvb
    rw [hu1, hv1, huu, hvv] at HS
    obtain ⟨u2, hu2⟩ : ∃ x, u1.tdiv 2 = x := ⟨_, rfl⟩
    obtain ⟨v2, hv2⟩ : ∃ x, v1.tdiv 2 = x := ⟨_, rfl⟩
    have b3 : u2.natAbs ≤ 1000001 := by rw [← hu2]; exact Nat.le_trans (tdivB _) (by omega)
    have b4 : v2.natAbs ≤ 1000001 := by rw [← hv2]; exact Nat.le_trans (tdivB _) (by omega)
    obtain ⟨uu1, huu1⟩ : ∃ x, uu - 1 = x := ⟨_, rfl⟩
    obtain ⟨vv1, hvv1⟩ : ∃ x, vv - 1 = x := ⟨_, rfl⟩
    rw [hu2, hv2, huu1, hvv1] at HS
    obtain ⟨u8, hu8⟩ : ∃ x, uu1.tdiv 8 = x := ⟨_, rfl⟩
    obtain ⟨v8, hv8⟩ : ∃ x, vv1.tdiv 8 = x := ⟨_, rfl⟩
    have b5 : u8.natAbs ≤ 1000000000001 := by rw [← hu8]; exact Nat.le_trans (tdivB _) (by omega)
    have b6 : v8.natAbs ≤ 1000000000001 := by rw [← hv8]; exact Nat.le_trans (tdivB _) (by omega)
    obtain ⟨t1, ht1⟩ : ∃ x, u2 * v2 = x := ⟨_, rfl⟩
    obtain ⟨t2, ht2⟩ : ∃ x, (i : Int) * v8 = x := ⟨_, rfl⟩
    obtain ⟨t3, ht3⟩ : ∃ x, (j : Int) * u8 = x := ⟨_, rfl⟩
    have b7 : t1.natAbs ≤ 1000001 * 1000001 := by rw [← ht1]; exact mulB b3 b4
    have b8 : t2.natAbs ≤ 40 * 1000000000001 := by rw [← ht2]; exact mulB (by omega) b6
    have b9 : t3.natAbs ≤ 40 * 1000000000001 := by rw [← ht3]; exact mulB (by omega) b5
    rw [hu8, hv8, ht1, ht2, ht3] at HS
    have w1 : IntKind.i64.wrap u1 = u1 := wrapB (by omega) (by omega)
    have w2 : IntKind.i64.wrap v1 = v1 := wrapB (by omega) (by omega)
    have w3 : IntKind.i64.wrap uu = uu := wrapB (by omega) (by omega)
    have w4 : IntKind.i64.wrap vv = vv := wrapB (by omega) (by omega)
    have w5 : IntKind.i64.wrap uu1 = uu1 := wrapB (by omega) (by omega)
    have w6 : IntKind.i64.wrap vv1 = vv1 := wrapB (by omega) (by omega)
    have w7 : IntKind.i64.wrap t1 = t1 := wrapB (by omega) (by omega)
    have w8 : IntKind.i64.wrap t2 = t2 := wrapB (by omega) (by omega)
    have w9 : IntKind.i64.wrap t3 = t3 := wrapB (by omega) (by omega)
    have w10 : IntKind.i64.wrap (t1 + t2) = t1 + t2 := wrapB (by omega) (by omega)
    have w11 : IntKind.i64.wrap (t1 + t2 + t3) = t1 + t2 + t3 := wrapB (by omega) (by omega)
    have w12 : IntKind.i64.wrap u2 = u2 := wrapB (by omega) (by omega)
    have w13 : IntKind.i64.wrap v2 = v2 := wrapB (by omega) (by omega)
    have w14 : IntKind.i64.wrap u8 = u8 := wrapB (by omega) (by omega)
    have w15 : IntKind.i64.wrap v8 = v8 := wrapB (by omega) (by omega)
    by_cases h1 : t1 % 2 = 0
    · by_cases h2 : t2 % 2 = 0
      · by_cases h3 : t3 % 2 = 0
        · have E1 := Kept.mk (fun w => even_any t1 w)
          rw [decide_eq_true h1] at E1
          have E2 := Kept.mk (fun w => even_any t2 w)
          rw [decide_eq_true h2] at E2
          have E3 := Kept.mk (fun w => even_any t3 w)
          rw [decide_eq_true h3] at E3
          have HF : Kept (s = 1) := ⟨by rw [← HS.out, sgF_add, sgF_add, sg1 h1, sg1 h2, sg1 h3]; rfl⟩
          clear HS h1 h2 h3
          go_enter Tryz.func19, Tryz.ntmps19
          go_wp2_with fail
          refine (HSA.out _).mono ?_
          rintro e w1 ⟨rfl, rfl⟩
          go_wp2_with fail
          refine (HSB.out _).mono ?_
          rintro e w1 ⟨rfl, rfl⟩
          go_wp2_with fail
          refine (E1.out _).mono ?_
          rintro e w1 ⟨rfl, rfl⟩
          go_wp2_with fail
          refine (E2.out _).mono ?_
          rintro e w1 ⟨rfl, rfl⟩
          go_wp2_with fail
          refine (E3.out _).mono ?_
          rintro e w1 ⟨rfl, rfl⟩
          go_wp2
          go_ret
          exact ⟨rfl, by rw [HF.out]; rfl⟩
        · have E1 := Kept.mk (fun w => even_any t1 w)
          rw [decide_eq_true h1] at E1
          have E2 := Kept.mk (fun w => even_any t2 w)
          rw [decide_eq_true h2] at E2
          have E3 := Kept.mk (fun w => even_any t3 w)
          rw [decide_eq_false h3] at E3
          have HF : Kept (s = -1) := ⟨by rw [← HS.out, sgF_add, sgF_add, sg1 h1, sg1 h2, sg0 h3]; rfl⟩
          clear HS h1 h2 h3
          go_enter Tryz.func19, Tryz.ntmps19
          go_wp2_with fail
          refine (HSA.out _).mono ?_
          rintro e w1 ⟨rfl, rfl⟩
          go_wp2_with fail
          refine (HSB.out _).mono ?_
          rintro e w1 ⟨rfl, rfl⟩
          go_wp2_with fail
          refine (E1.out _).mono ?_
          rintro e w1 ⟨rfl, rfl⟩
          go_wp2_with fail
          refine (E2.out _).mono ?_
          rintro e w1 ⟨rfl, rfl⟩
          go_wp2_with fail
          refine (E3.out _).mono ?_
          rintro e w1 ⟨rfl, rfl⟩
          go_wp2
          go_ret
          exact ⟨rfl, by rw [HF.out]; rfl⟩
      · by_cases h3 : t3 % 2 = 0
        · have E1 := Kept.mk (fun w => even_any t1 w)
          rw [decide_eq_true h1] at E1
          have E2 := Kept.mk (fun w => even_any t2 w)
          rw [decide_eq_false h2] at E2
          have E3 := Kept.mk (fun w => even_any t3 w)
          rw [decide_eq_true h3] at E3
          have HF : Kept (s = -1) := ⟨by rw [← HS.out, sgF_add, sgF_add, sg1 h1, sg0 h2, sg1 h3]; rfl⟩
          clear HS h1 h2 h3
          go_enter Tryz.func19, Tryz.ntmps19
          go_wp2_with fail
          refine (HSA.out _).mono ?_
          rintro e w1 ⟨rfl, rfl⟩
          go_wp2_with fail
          refine (HSB.out _).mono ?_
          rintro e w1 ⟨rfl, rfl⟩
          go_wp2_with fail
          refine (E1.out _).mono ?_
          rintro e w1 ⟨rfl, rfl⟩
          go_wp2_with fail
          refine (E2.out _).mono ?_
          rintro e w1 ⟨rfl, rfl⟩
          go_wp2_with fail
          refine (E3.out _).mono ?_
          rintro e w1 ⟨rfl, rfl⟩
          go_wp2
          go_ret
          exact ⟨rfl, by rw [HF.out]; rfl⟩
        · have E1 := Kept.mk (fun w => even_any t1 w)
          rw [decide_eq_true h1] at E1
          have E2 := Kept.mk (fun w => even_any t2 w)
          rw [decide_eq_false h2] at E2
          have E3 := Kept.mk (fun w => even_any t3 w)
          rw [decide_eq_false h3] at E3
          have HF : Kept (s = 1) := ⟨by rw [← HS.out, sgF_add, sgF_add, sg1 h1, sg0 h2, sg0 h3]; rfl⟩
          clear HS h1 h2 h3
          go_enter Tryz.func19, Tryz.ntmps19
          go_wp2_with fail
          refine (HSA.out _).mono ?_
          rintro e w1 ⟨rfl, rfl⟩
          go_wp2_with fail
          refine (HSB.out _).mono ?_
          rintro e w1 ⟨rfl, rfl⟩
          go_wp2_with fail
          refine (E1.out _).mono ?_
          rintro e w1 ⟨rfl, rfl⟩
          go_wp2_with fail
          refine (E2.out _).mono ?_
          rintro e w1 ⟨rfl, rfl⟩
          go_wp2_with fail
          refine (E3.out _).mono ?_
          rintro e w1 ⟨rfl, rfl⟩
          go_wp2
          go_ret
          exact ⟨rfl, by rw [HF.out]; rfl⟩
    · by_cases h2 : t2 % 2 = 0
      · by_cases h3 : t3 % 2 = 0
        · have E1 := Kept.mk (fun w => even_any t1 w)
          rw [decide_eq_false h1] at E1
          have E2 := Kept.mk (fun w => even_any t2 w)
          rw [decide_eq_true h2] at E2
          have E3 := Kept.mk (fun w => even_any t3 w)
          rw [decide_eq_true h3] at E3
          have HF : Kept (s = -1) := ⟨by rw [← HS.out, sgF_add, sgF_add, sg0 h1, sg1 h2, sg1 h3]; rfl⟩
          clear HS h1 h2 h3
          go_enter Tryz.func19, Tryz.ntmps19
          go_wp2_with fail
          refine (HSA.out _).mono ?_
          rintro e w1 ⟨rfl, rfl⟩
          go_wp2_with fail
          refine (HSB.out _).mono ?_
          rintro e w1 ⟨rfl, rfl⟩
          go_wp2_with fail
          refine (E1.out _).mono ?_
          rintro e w1 ⟨rfl, rfl⟩
          go_wp2_with fail
          refine (E2.out _).mono ?_
          rintro e w1 ⟨rfl, rfl⟩
          go_wp2_with fail
          refine (E3.out _).mono ?_
          rintro e w1 ⟨rfl, rfl⟩
          go_wp2
          go_ret
          exact ⟨rfl, by rw [HF.out]; rfl⟩
        · have E1 := Kept.mk (fun w => even_any t1 w)
          rw [decide_eq_false h1] at E1
          have E2 := Kept.mk (fun w => even_any t2 w)
          rw [decide_eq_true h2] at E2
          have E3 := Kept.mk (fun w => even_any t3 w)
          rw [decide_eq_false h3] at E3
          have HF : Kept (s = 1) := ⟨by rw [← HS.out, sgF_add, sgF_add, sg0 h1, sg1 h2, sg0 h3]; rfl⟩
          clear HS h1 h2 h3
          go_enter Tryz.func19, Tryz.ntmps19
          go_wp2_with fail
          refine (HSA.out _).mono ?_
          rintro e w1 ⟨rfl, rfl⟩
          go_wp2_with fail
          refine (HSB.out _).mono ?_
          rintro e w1 ⟨rfl, rfl⟩
          go_wp2_with fail
          refine (E1.out _).mono ?_
          rintro e w1 ⟨rfl, rfl⟩
          go_wp2_with fail
          refine (E2.out _).mono ?_
          rintro e w1 ⟨rfl, rfl⟩
          go_wp2_with fail
          refine (E3.out _).mono ?_
          rintro e w1 ⟨rfl, rfl⟩
          go_wp2
          go_ret
          exact ⟨rfl, by rw [HF.out]; rfl⟩
      · by_cases h3 : t3 % 2 = 0
        · have E1 := Kept.mk (fun w => even_any t1 w)
          rw [decide_eq_false h1] at E1
          have E2 := Kept.mk (fun w => even_any t2 w)
          rw [decide_eq_false h2] at E2
          have E3 := Kept.mk (fun w => even_any t3 w)
          rw [decide_eq_true h3] at E3
          have HF : Kept (s = 1) := ⟨by rw [← HS.out, sgF_add, sgF_add, sg0 h1, sg0 h2, sg1 h3]; rfl⟩
          clear HS h1 h2 h3
          go_enter Tryz.func19, Tryz.ntmps19
          go_wp2_with fail
          refine (HSA.out _).mono ?_
          rintro e w1 ⟨rfl, rfl⟩
          go_wp2_with fail
          refine (HSB.out _).mono ?_
          rintro e w1 ⟨rfl, rfl⟩
          go_wp2_with fail
          refine (E1.out _).mono ?_
          rintro e w1 ⟨rfl, rfl⟩
          go_wp2_with fail
          refine (E2.out _).mono ?_
          rintro e w1 ⟨rfl, rfl⟩
          go_wp2_with fail
          refine (E3.out _).mono ?_
          rintro e w1 ⟨rfl, rfl⟩
          go_wp2
          go_ret
          exact ⟨rfl, by rw [HF.out]; rfl⟩
        · have E1 := Kept.mk (fun w => even_any t1 w)
          rw [decide_eq_false h1] at E1
          have E2 := Kept.mk (fun w => even_any t2 w)
          rw [decide_eq_false h2] at E2
          have E3 := Kept.mk (fun w => even_any t3 w)
          rw [decide_eq_false h3] at E3
          have HF : Kept (s = -1) := ⟨by rw [← HS.out, sgF_add, sgF_add, sg0 h1, sg0 h2, sg0 h3]; rfl⟩
          clear HS h1 h2 h3
          go_enter Tryz.func19, Tryz.ntmps19
          go_wp2_with fail
          refine (HSA.out _).mono ?_
          rintro e w1 ⟨rfl, rfl⟩
          go_wp2_with fail
          refine (HSB.out _).mono ?_
          rintro e w1 ⟨rfl, rfl⟩
          go_wp2_with fail
          refine (E1.out _).mono ?_
          rintro e w1 ⟨rfl, rfl⟩
          go_wp2_with fail
          refine (E2.out _).mono ?_
          rintro e w1 ⟨rfl, rfl⟩
          go_wp2_with fail
          refine (E3.out _).mono ?_
          rintro e w1 ⟨rfl, rfl⟩
          go_wp2
          go_ret
          exact ⟨rfl, by rw [HF.out]; rfl⟩
  · rw [syF_odd a b hp.1] at HS
    have hsa := vp_spl (p := p) (by omega) ha0
    have hsb := vp_spl (p := p) (by omega) hb0
    obtain ⟨i, hi⟩ : ∃ i, vpn p a = i := ⟨_, rfl⟩
    obtain ⟨j, hj⟩ : ∃ j, vpn p b = j := ⟨_, rfl⟩
    obtain ⟨u, hu⟩ : ∃ u, vpr p a = u := ⟨_, rfl⟩
    obtain ⟨v, hv⟩ : ∃ v, vpr p b = v := ⟨_, rfl⟩
    rw [hi, hu] at hsa
    rw [hj, hv] at hsb
    rw [hi, hj, hu, hv] at HS
    have hla := hsa.le (by omega) ha0
    have hlb := hsb.le (by omega) hb0
    have hi40 : i ≤ 40 := exp_le hla.2.2.2 (by omega)
    have hj40 : j ≤ 40 := exp_le hlb.2.2.2 (by omega)
    have HSA := Kept.mk (fun w => part_any p a u i w hsa (by omega) ha0 (by omega))
    have HSB := Kept.mk (fun w => part_any p b v j w hsb (by omega) hb0 (by omega))
    have HNU := Kept.mk (fun w => legendre_any u p w hp (by omega))
    have HNV := Kept.mk (fun w => legendre_any v p w hp (by omega))
    have hp1 := hp.1
    have hp2 := hp.2
    rw [sgF_add, sgF_add, sgF_ns, sgF_ns] at HS
    have lu := lgF_or u p
    have lv := lgF_or v p
    obtain ⟨nu, hnu'⟩ : ∃ x, lgF u p = x := ⟨_, rfl⟩
    obtain ⟨nv, hnv'⟩ : ∃ x, lgF v p = x := ⟨_, rfl⟩
    rw [hnu'] at HS HNU lu
    rw [hnv'] at HS HNV lv
    obtain ⟨p1, hp1'⟩ : ∃ x, p - 1 = x := ⟨_, rfl⟩
    obtain ⟨t0, ht0⟩ : ∃ x, (i : Int) * (j : Int) = x := ⟨_, rfl⟩
    have b0 : t0.natAbs ≤ 40 * 40 := by rw [← ht0]; exact mulB (by omega) (by omega)
    obtain ⟨p2, hp2'⟩ : ∃ x, p1.tdiv 2 = x := ⟨_, rfl⟩
    have b2 : p2.natAbs ≤ 1000000 := by rw [← hp2']; exact Nat.le_trans (tdivB _) (by omega)
    obtain ⟨t1, ht1⟩ : ∃ x, t0 * p2 = x := ⟨_, rfl⟩
    have b1 : t1.natAbs ≤ 40 * 40 * 1000000 := by rw [← ht1]; exact mulB b0 b2
    have hpe : ((i : Int) * (j : Int) * (p - 1)).tdiv 2 = t1 := by
      have h2 : p1 = 2 * p2 := by
        have h3 := Int.tmod_add_mul_tdiv p1 2
        have h4 : p1.tmod 2 = 0 := (int_even (by omega) p1).2 (by omega)
        omega
      rw [ht0, hp1', h2, show t0 * (2 * p2) = 2 * t1 by rw [← ht1, ← Int.mul_assoc, Int.mul_comm t0 2, Int.mul_assoc], Int.mul_tdiv_cancel_left _ (by omega)]
    rw [hpe] at HS
    have w0 : IntKind.i64.wrap t0 = t0 := wrapB (by omega) (by omega)
    have w1 : IntKind.i64.wrap p1 = p1 := wrapB (by omega) (by omega)
    have w2 : IntKind.i64.wrap t1 = t1 := wrapB (by omega) (by omega)
    have w3 : IntKind.i64.wrap p2 = p2 := wrapB (by omega) (by omega)
    have q1 : (p == -1) = false := beq_eq_false_iff_ne.2 (by omega)
    have q2 : (p == 2) = false := beq_eq_false_iff_ne.2 (by omega)
    clear hi hj hu hv hsa hsb hla hlb ha hb ha0 hb0 hp hnu' hnv' b0 b1 b2 hi40 hj40 hpe hodd
    by_cases h1 : t1 % 2 = 0
    · by_cases h2 : (j : Int) % 2 = 0
      · by_cases h3 : (i : Int) % 2 = 0
        · have E1 := Kept.mk (fun w => even_any t1 w)
          rw [decide_eq_true h1] at E1
          have E2 := Kept.mk (fun w => even_any (j : Int) w)
          rw [decide_eq_true h2] at E2
          have E3 := Kept.mk (fun w => even_any (i : Int) w)
          rw [decide_eq_true h3] at E3
          have HF : Kept (s = 1) := ⟨by rw [← HS.out, sg1 h1, if_pos h2, if_pos h3]; rfl⟩
          clear HS h1 h2 h3
          go_enter Tryz.func19, Tryz.ntmps19
          go_wp2_with fail
          refine (HSA.out _).mono ?_
          rintro e w1 ⟨rfl, rfl⟩
          go_wp2_with fail
          refine (HSB.out _).mono ?_
          rintro e w1 ⟨rfl, rfl⟩
          go_wp2_with fail
          refine (E1.out _).mono ?_
          rintro e w1 ⟨rfl, rfl⟩
          go_wp2_with fail
          refine (E2.out _).mono ?_
          rintro e w1 ⟨rfl, rfl⟩
          go_wp2_with fail
          refine (E3.out _).mono ?_
          rintro e w1 ⟨rfl, rfl⟩
          go_wp2
          go_ret
          exact ⟨rfl, by rw [HF.out]; rfl⟩
        · rcases lv with rfl | rfl
          · have E1 := Kept.mk (fun w => even_any t1 w)
            rw [decide_eq_true h1] at E1
            have E2 := Kept.mk (fun w => even_any (j : Int) w)
            rw [decide_eq_true h2] at E2
            have E3 := Kept.mk (fun w => even_any (i : Int) w)
            rw [decide_eq_false h3] at E3
            have HF : Kept (s = 1) := ⟨by rw [← HS.out, sg1 h1, if_pos h2, if_neg h3]; rfl⟩
            clear HS h1 h2 h3
            go_enter Tryz.func19, Tryz.ntmps19
            go_wp2_with fail
            refine (HSA.out _).mono ?_
            rintro e w1 ⟨rfl, rfl⟩
            go_wp2_with fail
            refine (HSB.out _).mono ?_
            rintro e w1 ⟨rfl, rfl⟩
            go_wp2_with fail
            refine (E1.out _).mono ?_
            rintro e w1 ⟨rfl, rfl⟩
            go_wp2_with fail
            refine (E2.out _).mono ?_
            rintro e w1 ⟨rfl, rfl⟩
            go_wp2_with fail
            refine (E3.out _).mono ?_
            rintro e w1 ⟨rfl, rfl⟩
            go_wp2_with fail
            refine (HNV.out _).mono ?_
            rintro e w1 ⟨rfl, rfl⟩
            go_wp2
            go_ret
            exact ⟨rfl, by rw [HF.out]; rfl⟩
          · have E1 := Kept.mk (fun w => even_any t1 w)
            rw [decide_eq_true h1] at E1
            have E2 := Kept.mk (fun w => even_any (j : Int) w)
            rw [decide_eq_true h2] at E2
            have E3 := Kept.mk (fun w => even_any (i : Int) w)
            rw [decide_eq_false h3] at E3
            have HF : Kept (s = -1) := ⟨by rw [← HS.out, sg1 h1, if_pos h2, if_neg h3]; rfl⟩
            clear HS h1 h2 h3
            go_enter Tryz.func19, Tryz.ntmps19
            go_wp2_with fail
            refine (HSA.out _).mono ?_
            rintro e w1 ⟨rfl, rfl⟩
            go_wp2_with fail
            refine (HSB.out _).mono ?_
            rintro e w1 ⟨rfl, rfl⟩
            go_wp2_with fail
            refine (E1.out _).mono ?_
            rintro e w1 ⟨rfl, rfl⟩
            go_wp2_with fail
            refine (E2.out _).mono ?_
            rintro e w1 ⟨rfl, rfl⟩
            go_wp2_with fail
            refine (E3.out _).mono ?_
            rintro e w1 ⟨rfl, rfl⟩
            go_wp2_with fail
            refine (HNV.out _).mono ?_
            rintro e w1 ⟨rfl, rfl⟩
            go_wp2
            go_ret
            exact ⟨rfl, by rw [HF.out]; rfl⟩
      · by_cases h3 : (i : Int) % 2 = 0
        · rcases lu with rfl | rfl
          · have E1 := Kept.mk (fun w => even_any t1 w)
            rw [decide_eq_true h1] at E1
            have E2 := Kept.mk (fun w => even_any (j : Int) w)
            rw [decide_eq_false h2] at E2
            have E3 := Kept.mk (fun w => even_any (i : Int) w)
            rw [decide_eq_true h3] at E3
            have HF : Kept (s = 1) := ⟨by rw [← HS.out, sg1 h1, if_neg h2, if_pos h3]; rfl⟩
            clear HS h1 h2 h3
            go_enter Tryz.func19, Tryz.ntmps19
            go_wp2_with fail
            refine (HSA.out _).mono ?_
            rintro e w1 ⟨rfl, rfl⟩
            go_wp2_with fail
            refine (HSB.out _).mono ?_
            rintro e w1 ⟨rfl, rfl⟩
            go_wp2_with fail
            refine (E1.out _).mono ?_
            rintro e w1 ⟨rfl, rfl⟩
            go_wp2_with fail
            refine (E2.out _).mono ?_
            rintro e w1 ⟨rfl, rfl⟩
            go_wp2_with fail
            refine (HNU.out _).mono ?_
            rintro e w1 ⟨rfl, rfl⟩
            go_wp2_with fail
            refine (E3.out _).mono ?_
            rintro e w1 ⟨rfl, rfl⟩
            go_wp2
            go_ret
            exact ⟨rfl, by rw [HF.out]; rfl⟩
          · have E1 := Kept.mk (fun w => even_any t1 w)
            rw [decide_eq_true h1] at E1
            have E2 := Kept.mk (fun w => even_any (j : Int) w)
            rw [decide_eq_false h2] at E2
            have E3 := Kept.mk (fun w => even_any (i : Int) w)
            rw [decide_eq_true h3] at E3
            have HF : Kept (s = -1) := ⟨by rw [← HS.out, sg1 h1, if_neg h2, if_pos h3]; rfl⟩
            clear HS h1 h2 h3
            go_enter Tryz.func19, Tryz.ntmps19
            go_wp2_with fail
            refine (HSA.out _).mono ?_
            rintro e w1 ⟨rfl, rfl⟩
            go_wp2_with fail
            refine (HSB.out _).mono ?_
            rintro e w1 ⟨rfl, rfl⟩
            go_wp2_with fail
            refine (E1.out _).mono ?_
            rintro e w1 ⟨rfl, rfl⟩
            go_wp2_with fail
            refine (E2.out _).mono ?_
            rintro e w1 ⟨rfl, rfl⟩
            go_wp2_with fail
            refine (HNU.out _).mono ?_
            rintro e w1 ⟨rfl, rfl⟩
            go_wp2_with fail
            refine (E3.out _).mono ?_
            rintro e w1 ⟨rfl, rfl⟩
            go_wp2
            go_ret
            exact ⟨rfl, by rw [HF.out]; rfl⟩
        · rcases lu with rfl | rfl
          · rcases lv with rfl | rfl
            · have E1 := Kept.mk (fun w => even_any t1 w)
              rw [decide_eq_true h1] at E1
              have E2 := Kept.mk (fun w => even_any (j : Int) w)
              rw [decide_eq_false h2] at E2
              have E3 := Kept.mk (fun w => even_any (i : Int) w)
              rw [decide_eq_false h3] at E3
              have HF : Kept (s = 1) := ⟨by rw [← HS.out, sg1 h1, if_neg h2, if_neg h3]; rfl⟩
              clear HS h1 h2 h3
              go_enter Tryz.func19, Tryz.ntmps19
              go_wp2_with fail
              refine (HSA.out _).mono ?_
              rintro e w1 ⟨rfl, rfl⟩
              go_wp2_with fail
              refine (HSB.out _).mono ?_
              rintro e w1 ⟨rfl, rfl⟩
              go_wp2_with fail
              refine (E1.out _).mono ?_
              rintro e w1 ⟨rfl, rfl⟩
              go_wp2_with fail
              refine (E2.out _).mono ?_
              rintro e w1 ⟨rfl, rfl⟩
              go_wp2_with fail
              refine (HNU.out _).mono ?_
              rintro e w1 ⟨rfl, rfl⟩
              go_wp2_with fail
              refine (E3.out _).mono ?_
              rintro e w1 ⟨rfl, rfl⟩
              go_wp2_with fail
              refine (HNV.out _).mono ?_
              rintro e w1 ⟨rfl, rfl⟩
              go_wp2
              go_ret
              exact ⟨rfl, by rw [HF.out]; rfl⟩
            · have E1 := Kept.mk (fun w => even_any t1 w)
              rw [decide_eq_true h1] at E1
              have E2 := Kept.mk (fun w => even_any (j : Int) w)
              rw [decide_eq_false h2] at E2
              have E3 := Kept.mk (fun w => even_any (i : Int) w)
              rw [decide_eq_false h3] at E3
              have HF : Kept (s = -1) := ⟨by rw [← HS.out, sg1 h1, if_neg h2, if_neg h3]; rfl⟩
              clear HS h1 h2 h3
              go_enter Tryz.func19, Tryz.ntmps19
              go_wp2_with fail
              refine (HSA.out _).mono ?_
              rintro e w1 ⟨rfl, rfl⟩
              go_wp2_with fail
              refine (HSB.out _).mono ?_
              rintro e w1 ⟨rfl, rfl⟩
              go_wp2_with fail
              refine (E1.out _).mono ?_
              rintro e w1 ⟨rfl, rfl⟩
              go_wp2_with fail
              refine (E2.out _).mono ?_
              rintro e w1 ⟨rfl, rfl⟩
              go_wp2_with fail
              refine (HNU.out _).mono ?_
              rintro e w1 ⟨rfl, rfl⟩
              go_wp2_with fail
              refine (E3.out _).mono ?_
              rintro e w1 ⟨rfl, rfl⟩
              go_wp2_with fail
              refine (HNV.out _).mono ?_
              rintro e w1 ⟨rfl, rfl⟩
              go_wp2
              go_ret
              exact ⟨rfl, by rw [HF.out]; rfl⟩
          · rcases lv with rfl | rfl
            · have E1 := Kept.mk (fun w => even_any t1 w)
              rw [decide_eq_true h1] at E1
              have E2 := Kept.mk (fun w => even_any (j : Int) w)
              rw [decide_eq_false h2] at E2
              have E3 := Kept.mk (fun w => even_any (i : Int) w)
              rw [decide_eq_false h3] at E3
              have HF : Kept (s = -1) := ⟨by rw [← HS.out, sg1 h1, if_neg h2, if_neg h3]; rfl⟩
              clear HS h1 h2 h3
              go_enter Tryz.func19, Tryz.ntmps19
              go_wp2_with fail
              refine (HSA.out _).mono ?_
              rintro e w1 ⟨rfl, rfl⟩
              go_wp2_with fail
              refine (HSB.out _).mono ?_
              rintro e w1 ⟨rfl, rfl⟩
              go_wp2_with fail
              refine (E1.out _).mono ?_
              rintro e w1 ⟨rfl, rfl⟩
              go_wp2_with fail
              refine (E2.out _).mono ?_
              rintro e w1 ⟨rfl, rfl⟩
              go_wp2_with fail
              refine (HNU.out _).mono ?_
              rintro e w1 ⟨rfl, rfl⟩
              go_wp2_with fail
              refine (E3.out _).mono ?_
              rintro e w1 ⟨rfl, rfl⟩
              go_wp2_with fail
              refine (HNV.out _).mono ?_
              rintro e w1 ⟨rfl, rfl⟩
              go_wp2
              go_ret
              exact ⟨rfl, by rw [HF.out]; rfl⟩
            · have E1 := Kept.mk (fun w => even_any t1 w)
              rw [decide_eq_true h1] at E1
              have E2 := Kept.mk (fun w => even_any (j : Int) w)
              rw [decide_eq_false h2] at E2
              have E3 := Kept.mk (fun w => even_any (i : Int) w)
              rw [decide_eq_false h3] at E3
              have HF : Kept (s = 1) := ⟨by rw [← HS.out, sg1 h1, if_neg h2, if_neg h3]; rfl⟩
              clear HS h1 h2 h3
              go_enter Tryz.func19, Tryz.ntmps19
              go_wp2_with fail
              refine (HSA.out _).mono ?_
              rintro e w1 ⟨rfl, rfl⟩
              go_wp2_with fail
              refine (HSB.out _).mono ?_
              rintro e w1 ⟨rfl, rfl⟩
              go_wp2_with fail
              refine (E1.out _).mono ?_
              rintro e w1 ⟨rfl, rfl⟩
              go_wp2_with fail
              refine (E2.out _).mono ?_
              rintro e w1 ⟨rfl, rfl⟩
              go_wp2_with fail
              refine (HNU.out _).mono ?_
              rintro e w1 ⟨rfl, rfl⟩
              go_wp2_with fail
              refine (E3.out _).mono ?_
              rintro e w1 ⟨rfl, rfl⟩
              go_wp2_with fail
              refine (HNV.out _).mono ?_
              rintro e w1 ⟨rfl, rfl⟩
              go_wp2
              go_ret
              exact ⟨rfl, by rw [HF.out]; rfl⟩
    · by_cases h2 : (j : Int) % 2 = 0
      · by_cases h3 : (i : Int) % 2 = 0
        · have E1 := Kept.mk (fun w => even_any t1 w)
          rw [decide_eq_false h1] at E1
          have E2 := Kept.mk (fun w => even_any (j : Int) w)
          rw [decide_eq_true h2] at E2
          have E3 := Kept.mk (fun w => even_any (i : Int) w)
          rw [decide_eq_true h3] at E3
          have HF : Kept (s = -1) := ⟨by rw [← HS.out, sg0 h1, if_pos h2, if_pos h3]; rfl⟩
          clear HS h1 h2 h3
          go_enter Tryz.func19, Tryz.ntmps19
          go_wp2_with fail
          refine (HSA.out _).mono ?_
          rintro e w1 ⟨rfl, rfl⟩
          go_wp2_with fail
          refine (HSB.out _).mono ?_
          rintro e w1 ⟨rfl, rfl⟩
          go_wp2_with fail
          refine (E1.out _).mono ?_
          rintro e w1 ⟨rfl, rfl⟩
          go_wp2_with fail
          refine (E2.out _).mono ?_
          rintro e w1 ⟨rfl, rfl⟩
          go_wp2_with fail
          refine (E3.out _).mono ?_
          rintro e w1 ⟨rfl, rfl⟩
          go_wp2
          go_ret
          exact ⟨rfl, by rw [HF.out]; rfl⟩
        · rcases lv with rfl | rfl
          · have E1 := Kept.mk (fun w => even_any t1 w)
            rw [decide_eq_false h1] at E1
            have E2 := Kept.mk (fun w => even_any (j : Int) w)
            rw [decide_eq_true h2] at E2
            have E3 := Kept.mk (fun w => even_any (i : Int) w)
            rw [decide_eq_false h3] at E3
            have HF : Kept (s = -1) := ⟨by rw [← HS.out, sg0 h1, if_pos h2, if_neg h3]; rfl⟩
            clear HS h1 h2 h3
            go_enter Tryz.func19, Tryz.ntmps19
            go_wp2_with fail
            refine (HSA.out _).mono ?_
            rintro e w1 ⟨rfl, rfl⟩
            go_wp2_with fail
            refine (HSB.out _).mono ?_
            rintro e w1 ⟨rfl, rfl⟩
            go_wp2_with fail
            refine (E1.out _).mono ?_
            rintro e w1 ⟨rfl, rfl⟩
            go_wp2_with fail
            refine (E2.out _).mono ?_
            rintro e w1 ⟨rfl, rfl⟩
            go_wp2_with fail
            refine (E3.out _).mono ?_
            rintro e w1 ⟨rfl, rfl⟩
            go_wp2_with fail
            refine (HNV.out _).mono ?_
            rintro e w1 ⟨rfl, rfl⟩
            go_wp2
            go_ret
            exact ⟨rfl, by rw [HF.out]; rfl⟩
          · have E1 := Kept.mk (fun w => even_any t1 w)
            rw [decide_eq_false h1] at E1
            have E2 := Kept.mk (fun w => even_any (j : Int) w)
            rw [decide_eq_true h2] at E2
            have E3 := Kept.mk (fun w => even_any (i : Int) w)
            rw [decide_eq_false h3] at E3
            have HF : Kept (s = 1) := ⟨by rw [← HS.out, sg0 h1, if_pos h2, if_neg h3]; rfl⟩
            clear HS h1 h2 h3
            go_enter Tryz.func19, Tryz.ntmps19
            go_wp2_with fail
            refine (HSA.out _).mono ?_
            rintro e w1 ⟨rfl, rfl⟩
            go_wp2_with fail
            refine (HSB.out _).mono ?_
            rintro e w1 ⟨rfl, rfl⟩
            go_wp2_with fail
            refine (E1.out _).mono ?_
            rintro e w1 ⟨rfl, rfl⟩
            go_wp2_with fail
            refine (E2.out _).mono ?_
            rintro e w1 ⟨rfl, rfl⟩
            go_wp2_with fail
            refine (E3.out _).mono ?_
            rintro e w1 ⟨rfl, rfl⟩
            go_wp2_with fail
            refine (HNV.out _).mono ?_
            rintro e w1 ⟨rfl, rfl⟩
            go_wp2
            go_ret
            exact ⟨rfl, by rw [HF.out]; rfl⟩
      · by_cases h3 : (i : Int) % 2 = 0
        · rcases lu with rfl | rfl
          · have E1 := Kept.mk (fun w => even_any t1 w)
            rw [decide_eq_false h1] at E1
            have E2 := Kept.mk (fun w => even_any (j : Int) w)
            rw [decide_eq_false h2] at E2
            have E3 := Kept.mk (fun w => even_any (i : Int) w)
            rw [decide_eq_true h3] at E3
            have HF : Kept (s = -1) := ⟨by rw [← HS.out, sg0 h1, if_neg h2, if_pos h3]; rfl⟩
            clear HS h1 h2 h3
            go_enter Tryz.func19, Tryz.ntmps19
            go_wp2_with fail
            refine (HSA.out _).mono ?_
            rintro e w1 ⟨rfl, rfl⟩
            go_wp2_with fail
            refine (HSB.out _).mono ?_
            rintro e w1 ⟨rfl, rfl⟩
            go_wp2_with fail
            refine (E1.out _).mono ?_
            rintro e w1 ⟨rfl, rfl⟩
            go_wp2_with fail
            refine (E2.out _).mono ?_
            rintro e w1 ⟨rfl, rfl⟩
            go_wp2_with fail
            refine (HNU.out _).mono ?_
            rintro e w1 ⟨rfl, rfl⟩
            go_wp2_with fail
            refine (E3.out _).mono ?_
            rintro e w1 ⟨rfl, rfl⟩
            go_wp2
            go_ret
            exact ⟨rfl, by rw [HF.out]; rfl⟩
          · have E1 := Kept.mk (fun w => even_any t1 w)
            rw [decide_eq_false h1] at E1
            have E2 := Kept.mk (fun w => even_any (j : Int) w)
            rw [decide_eq_false h2] at E2
            have E3 := Kept.mk (fun w => even_any (i : Int) w)
            rw [decide_eq_true h3] at E3
            have HF : Kept (s = 1) := ⟨by rw [← HS.out, sg0 h1, if_neg h2, if_pos h3]; rfl⟩
            clear HS h1 h2 h3
            go_enter Tryz.func19, Tryz.ntmps19
            go_wp2_with fail
            refine (HSA.out _).mono ?_
            rintro e w1 ⟨rfl, rfl⟩
            go_wp2_with fail
            refine (HSB.out _).mono ?_
            rintro e w1 ⟨rfl, rfl⟩
            go_wp2_with fail
            refine (E1.out _).mono ?_
            rintro e w1 ⟨rfl, rfl⟩
            go_wp2_with fail
            refine (E2.out _).mono ?_
            rintro e w1 ⟨rfl, rfl⟩
            go_wp2_with fail
            refine (HNU.out _).mono ?_
            rintro e w1 ⟨rfl, rfl⟩
            go_wp2_with fail
            refine (E3.out _).mono ?_
            rintro e w1 ⟨rfl, rfl⟩
            go_wp2
            go_ret
            exact ⟨rfl, by rw [HF.out]; rfl⟩
        · rcases lu with rfl | rfl
          · rcases lv with rfl | rfl
            · have E1 := Kept.mk (fun w => even_any t1 w)
              rw [decide_eq_false h1] at E1
              have E2 := Kept.mk (fun w => even_any (j : Int) w)
              rw [decide_eq_false h2] at E2
              have E3 := Kept.mk (fun w => even_any (i : Int) w)
              rw [decide_eq_false h3] at E3
              have HF : Kept (s = -1) := ⟨by rw [← HS.out, sg0 h1, if_neg h2, if_neg h3]; rfl⟩
              clear HS h1 h2 h3
              go_enter Tryz.func19, Tryz.ntmps19
              go_wp2_with fail
              refine (HSA.out _).mono ?_
              rintro e w1 ⟨rfl, rfl⟩
              go_wp2_with fail
              refine (HSB.out _).mono ?_
              rintro e w1 ⟨rfl, rfl⟩
              go_wp2_with fail
              refine (E1.out _).mono ?_
              rintro e w1 ⟨rfl, rfl⟩
              go_wp2_with fail
              refine (E2.out _).mono ?_
              rintro e w1 ⟨rfl, rfl⟩
              go_wp2_with fail
              refine (HNU.out _).mono ?_
              rintro e w1 ⟨rfl, rfl⟩
              go_wp2_with fail
              refine (E3.out _).mono ?_
              rintro e w1 ⟨rfl, rfl⟩
              go_wp2_with fail
              refine (HNV.out _).mono ?_
              rintro e w1 ⟨rfl, rfl⟩
              go_wp2
              go_ret
              exact ⟨rfl, by rw [HF.out]; rfl⟩
            · have E1 := Kept.mk (fun w => even_any t1 w)
              rw [decide_eq_false h1] at E1
              have E2 := Kept.mk (fun w => even_any (j : Int) w)
              rw [decide_eq_false h2] at E2
              have E3 := Kept.mk (fun w => even_any (i : Int) w)
              rw [decide_eq_false h3] at E3
              have HF : Kept (s = 1) := ⟨by rw [← HS.out, sg0 h1, if_neg h2, if_neg h3]; rfl⟩
              clear HS h1 h2 h3
              go_enter Tryz.func19, Tryz.ntmps19
              go_wp2_with fail
              refine (HSA.out _).mono ?_
              rintro e w1 ⟨rfl, rfl⟩
              go_wp2_with fail
              refine (HSB.out _).mono ?_
              rintro e w1 ⟨rfl, rfl⟩
              go_wp2_with fail
              refine (E1.out _).mono ?_
              rintro e w1 ⟨rfl, rfl⟩
              go_wp2_with fail
              refine (E2.out _).mono ?_
              rintro e w1 ⟨rfl, rfl⟩
              go_wp2_with fail
              refine (HNU.out _).mono ?_
              rintro e w1 ⟨rfl, rfl⟩
              go_wp2_with fail
              refine (E3.out _).mono ?_
              rintro e w1 ⟨rfl, rfl⟩
              go_wp2_with fail
              refine (HNV.out _).mono ?_
              rintro e w1 ⟨rfl, rfl⟩
              go_wp2
              go_ret
              exact ⟨rfl, by rw [HF.out]; rfl⟩
          · rcases lv with rfl | rfl
            · have E1 := Kept.mk (fun w => even_any t1 w)
              rw [decide_eq_false h1] at E1
              have E2 := Kept.mk (fun w => even_any (j : Int) w)
              rw [decide_eq_false h2] at E2
              have E3 := Kept.mk (fun w => even_any (i : Int) w)
              rw [decide_eq_false h3] at E3
              have HF : Kept (s = 1) := ⟨by rw [← HS.out, sg0 h1, if_neg h2, if_neg h3]; rfl⟩
              clear HS h1 h2 h3
              go_enter Tryz.func19, Tryz.ntmps19
              go_wp2_with fail
              refine (HSA.out _).mono ?_
              rintro e w1 ⟨rfl, rfl⟩
              go_wp2_with fail
              refine (HSB.out _).mono ?_
              rintro e w1 ⟨rfl, rfl⟩
              go_wp2_with fail
              refine (E1.out _).mono ?_
              rintro e w1 ⟨rfl, rfl⟩
              go_wp2_with fail
              refine (E2.out _).mono ?_
              rintro e w1 ⟨rfl, rfl⟩
              go_wp2_with fail
              refine (HNU.out _).mono ?_
              rintro e w1 ⟨rfl, rfl⟩
              go_wp2_with fail
              refine (E3.out _).mono ?_
              rintro e w1 ⟨rfl, rfl⟩
              go_wp2_with fail
              refine (HNV.out _).mono ?_
              rintro e w1 ⟨rfl, rfl⟩
              go_wp2
              go_ret
              exact ⟨rfl, by rw [HF.out]; rfl⟩
            · have E1 := Kept.mk (fun w => even_any t1 w)
              rw [decide_eq_false h1] at E1
              have E2 := Kept.mk (fun w => even_any (j : Int) w)
              rw [decide_eq_false h2] at E2
              have E3 := Kept.mk (fun w => even_any (i : Int) w)
              rw [decide_eq_false h3] at E3
              have HF : Kept (s = -1) := ⟨by rw [← HS.out, sg0 h1, if_neg h2, if_neg h3]; rfl⟩
              clear HS h1 h2 h3
              go_enter Tryz.func19, Tryz.ntmps19
              go_wp2_with fail
              refine (HSA.out _).mono ?_
              rintro e w1 ⟨rfl, rfl⟩
              go_wp2_with fail
              refine (HSB.out _).mono ?_
              rintro e w1 ⟨rfl, rfl⟩
              go_wp2_with fail
              refine (E1.out _).mono ?_
              rintro e w1 ⟨rfl, rfl⟩
              go_wp2_with fail
              refine (E2.out _).mono ?_
              rintro e w1 ⟨rfl, rfl⟩
              go_wp2_with fail
              refine (HNU.out _).mono ?_
              rintro e w1 ⟨rfl, rfl⟩
              go_wp2_with fail
              refine (E3.out _).mono ?_
              rintro e w1 ⟨rfl, rfl⟩
              go_wp2_with fail
              refine (HNV.out _).mono ?_
              rintro e w1 ⟨rfl, rfl⟩
              go_wp2
              go_ret
              exact ⟨rfl, by rw [HF.out]; rfl⟩
end Go.Proofs.YtalahdkhglagpaaGreat
