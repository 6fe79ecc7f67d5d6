import Derived.Test.YtalahdkhglagpaaGreatDoorDj
set_option linter.unusedVariables false
set_option linter.unusedSimpArgs false
namespace Go.Proofs.YtalahdkhglagpaaGreatDoor
open Go Go.RowKit Go.Deep
open Dnt
/-- The symbol of a and b at a place. -/
noncomputable def syF (a b place : Int) : Int :=
  if place = -1 then (if a < 0 ∧ b < 0 then -1 else 1)
  else if place = 2 then sgF ((vpr 2 a - 1).tdiv 2 * (vpr 2 b - 1).tdiv 2 + (vpn 2 a : Nat) * (vpr 2 b * vpr 2 b - 1).tdiv 8 + (vpn 2 b : Nat) * (vpr 2 a * vpr 2 a - 1).tdiv 8)
  else sgF (((vpn place a : Nat) * (vpn place b : Nat) * (place - 1)).tdiv 2 + (vpn place b : Nat) * nsF (vpr place a) place + (vpn place a : Nat) * nsF (vpr place b) place)
theorem sgF_or (n : Int) : sgF n = 1 ∨ sgF n = -1 := by
  unfold sgF
  by_cases h : n % 2 = 0
  · exact .inl (if_pos h)
  · exact .inr (if_neg h)
theorem sgF_add (x y : Int) : sgF (x + y) = sgF x * sgF y := by
  unfold sgF
  by_cases h1 : x % 2 = 0
  · by_cases h2 : y % 2 = 0
    · rw [if_pos h1, if_pos h2, if_pos (by omega)]; rfl
    · rw [if_pos h1, if_neg h2, if_neg (by omega)]; rfl
  · by_cases h2 : y % 2 = 0
    · rw [if_neg h1, if_pos h2, if_neg (by omega)]; rfl
    · rw [if_neg h1, if_neg h2, if_pos (by omega)]; rfl
theorem mul_par {x y : Int} : (x * y) % 2 = 0 ↔ x % 2 = 0 ∨ y % 2 = 0 := by
  rw [Int.mul_emod]
  rcases (show x % 2 = 0 ∨ x % 2 = 1 by omega) with h1 | h1 <;> rcases (show y % 2 = 0 ∨ y % 2 = 1 by omega) with h2 | h2 <;> rw [h1, h2] <;> decide
/-- A power of Legendre's symbol as a sign. -/
theorem sgF_ns (j : Nat) (u p : Int) : sgF ((j : Int) * nsF u p) = if (j : Int) % 2 = 0 then 1 else lgF u p := by
  by_cases hj : (j : Int) % 2 = 0
  · rw [if_pos hj]
    unfold sgF
    rw [if_pos (mul_par.2 (.inl hj))]
  · rw [if_neg hj]
    unfold nsF lgF
    by_cases he : eul u p = true
    · rw [if_pos he, if_pos he, Int.mul_zero]; rfl
    · rw [if_neg he, if_neg he, Int.mul_one]
      unfold sgF
      rw [if_neg hj]
theorem mulB {x y : Int} {X Y : Nat} (h1 : x.natAbs ≤ X) (h2 : y.natAbs ≤ Y) : (x * y).natAbs ≤ X * Y := by
  rw [Int.natAbs_mul]; exact Nat.mul_le_mul h1 h2
theorem wrapN {n : Int} {N : Nat} (h : n.natAbs ≤ N) (hN : N ≤ 4611686018427387904) : IntKind.i64.wrap n = n := wrapB (by omega) (by omega)
theorem tdivB (x : Int) {d : Int} : (x.tdiv d).natAbs ≤ x.natAbs := by
  rw [Int.natAbs_tdiv]
  exact Nat.div_le_self _ _
set_option maxRecDepth 20000 in
set_option maxHeartbeats 4000000 in
theorem symbolAtTwo_any (a b : Int) (w : World) (ha0 : a ≠ 0) (hb0 : b ≠ 0) (ha : -1000000 ≤ a ∧ a ≤ 1000000) (hb : -1000000 ≤ b ∧ b ≤ 1000000) :
    Calls Tryz.prog 45 #[.int .i64 a, .int .i64 b] w (fun e w' => w = w' ∧ e = .returned (.int .i64 (syF a b 2))) := by
  have hsa := vp_spl (p := 2) (by omega) ha0
  have hsb := vp_spl (p := 2) (by omega) hb0
  obtain ⟨i, hi⟩ : ∃ i, vpn 2 a = i := ⟨_, rfl⟩
  obtain ⟨j, hj⟩ : ∃ j, vpn 2 b = j := ⟨_, rfl⟩
  obtain ⟨u, hu⟩ : ∃ u, vpr 2 a = u := ⟨_, rfl⟩
  obtain ⟨v, hv⟩ : ∃ v, vpr 2 b = v := ⟨_, rfl⟩
  rw [hi, hu] at hsa
  rw [hj, hv] at hsb
  have hla := hsa.le (by omega) ha0
  have hlb := hsb.le (by omega) hb0
  have hi40 : i ≤ 40 := exp_le hla.2.2.2 (by omega)
  have hj40 : j ≤ 40 := exp_le hlb.2.2.2 (by omega)
  have HSA := Kept.mk (fun w => split_any 2 a u i w hsa (by omega) ha0 (by omega))
  have HSB := Kept.mk (fun w => split_any 2 b v j w hsb (by omega) hb0 (by omega))
  have hub : u.natAbs ≤ 1000000 := by omega
  have hvb : v.natAbs ≤ 1000000 := by omega
  obtain ⟨s, hs⟩ : ∃ s, syF a b 2 = s := ⟨_, rfl⟩
  rw [hs]
  have HS : Kept (sgF ((u - 1).tdiv 2 * (v - 1).tdiv 2 + (i : Nat) * (v * v - 1).tdiv 8 + (j : Nat) * (u * u - 1).tdiv 8) = s) := ⟨by
    rw [← hs, ← hi, ← hj, ← hu, ← hv]
    rfl⟩
  clear hs hi hj hu hv hsa hsb hla hlb ha hb ha0 hb0
  obtain ⟨u1, hu1⟩ : ∃ x, u - 1 = x := ⟨_, rfl⟩
  obtain ⟨v1, hv1⟩ : ∃ x, v - 1 = x := ⟨_, rfl⟩
  obtain ⟨uu, huu⟩ : ∃ x, u * u = x := ⟨_, rfl⟩
  obtain ⟨vv, hvv⟩ : ∃ x, v * v = x := ⟨_, rfl⟩
  have b1 : uu.natAbs ≤ 1000000 * 1000000 := by rw [← huu]; exact mulB hub hub
  have b2 : vv.natAbs ≤ 1000000 * 1000000 := by rw [← hvv]; exact mulB hvb hvb
  rw [hu1, hv1, huu, hvv] at HS
  obtain ⟨u2, hu2⟩ : ∃ x, u1.tdiv 2 = x := ⟨_, rfl⟩
  obtain ⟨v2, hv2⟩ : ∃ x, v1.tdiv 2 = x := ⟨_, rfl⟩
  have b3 : u2.natAbs ≤ 1000001 := by rw [← hu2]; exact Nat.le_trans (tdivB _) (by omega)
  have b4 : v2.natAbs ≤ 1000001 := by rw [← hv2]; exact Nat.le_trans (tdivB _) (by omega)
  obtain ⟨uu1, huu1⟩ : ∃ x, uu - 1 = x := ⟨_, rfl⟩
  obtain ⟨vv1, hvv1⟩ : ∃ x, vv - 1 = x := ⟨_, rfl⟩
  rw [hu2, hv2, huu1, hvv1] at HS
  obtain ⟨u8, hu8⟩ : ∃ x, uu1.tdiv 8 = x := ⟨_, rfl⟩
  obtain ⟨v8, hv8⟩ : ∃ x, vv1.tdiv 8 = x := ⟨_, rfl⟩
  have b5 : u8.natAbs ≤ 1000000000001 := by rw [← hu8]; exact Nat.le_trans (tdivB _) (by omega)
  have b6 : v8.natAbs ≤ 1000000000001 := by rw [← hv8]; exact Nat.le_trans (tdivB _) (by omega)
  obtain ⟨t1, ht1⟩ : ∃ x, u2 * v2 = x := ⟨_, rfl⟩
  obtain ⟨t2, ht2⟩ : ∃ x, (i : Int) * v8 = x := ⟨_, rfl⟩
  obtain ⟨t3, ht3⟩ : ∃ x, (j : Int) * u8 = x := ⟨_, rfl⟩
  have b7 : t1.natAbs ≤ 1000001 * 1000001 := by rw [← ht1]; exact mulB b3 b4
  have b8 : t2.natAbs ≤ 40 * 1000000000001 := by rw [← ht2]; exact mulB (by omega) b6
  have b9 : t3.natAbs ≤ 40 * 1000000000001 := by rw [← ht3]; exact mulB (by omega) b5
  rw [hu8, hv8, ht1, ht2, ht3] at HS
  have w1 : IntKind.i64.wrap u1 = u1 := wrapB (by omega) (by omega)
  have w2 : IntKind.i64.wrap v1 = v1 := wrapB (by omega) (by omega)
  have w3 : IntKind.i64.wrap uu = uu := wrapB (by omega) (by omega)
  have w4 : IntKind.i64.wrap vv = vv := wrapB (by omega) (by omega)
  have w5 : IntKind.i64.wrap uu1 = uu1 := wrapB (by omega) (by omega)
  have w6 : IntKind.i64.wrap vv1 = vv1 := wrapB (by omega) (by omega)
  have w7 : IntKind.i64.wrap t1 = t1 := wrapB (by omega) (by omega)
  have w8 : IntKind.i64.wrap t2 = t2 := wrapB (by omega) (by omega)
  have w9 : IntKind.i64.wrap t3 = t3 := wrapB (by omega) (by omega)
  have w10 : IntKind.i64.wrap (t1 + t2) = t1 + t2 := wrapB (by omega) (by omega)
  have w11 : IntKind.i64.wrap (t1 + t2 + t3) = t1 + t2 + t3 := wrapB (by omega) (by omega)
  have w12 : IntKind.i64.wrap u2 = u2 := wrapB (by omega) (by omega)
  have w13 : IntKind.i64.wrap v2 = v2 := wrapB (by omega) (by omega)
  have w14 : IntKind.i64.wrap u8 = u8 := wrapB (by omega) (by omega)
  have w15 : IntKind.i64.wrap v8 = v8 := wrapB (by omega) (by omega)
  have HSG := Kept.mk (fun w => sign_any (t1 + t2 + t3) w)
  rw [HS.out] at HSG
  clear hub hvb b1 b2 b3 b4 b5 b6 b7 b8 b9 hi40 hj40
  go_enter Tryz.func45, Tryz.ntmps45
  go_wp2_with fail
  refine (HSA.out _).mono ?_
  rintro e w1 ⟨rfl, rfl⟩
  go_wp2_with fail
  refine (HSB.out _).mono ?_
  rintro e w1 ⟨rfl, rfl⟩
  go_wp2_with fail
  refine (HSG.out _).mono ?_
  rintro e w1 ⟨rfl, rfl⟩
  go_wp2
  go_ret
  exact ⟨rfl, rfl⟩
end Go.Proofs.YtalahdkhglagpaaGreatDoor
