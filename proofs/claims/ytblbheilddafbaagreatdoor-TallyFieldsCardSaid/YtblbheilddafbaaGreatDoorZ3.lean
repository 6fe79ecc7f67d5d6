/-
  Texts of the proof, merged by program: Dv2.
-/
import Derived.Test.YtblbheilddafbaaGreatDoorZ2
set_option linter.unusedVariables false
set_option linter.unusedSimpArgs false
namespace Go.Proofs.YtblbheilddafbaaGreatDoor
open Go Go.RowKit
/-- What Div64 returns: the quotient and the rest of two words by one. -/
def DvRet (hi lo y : Int) (w : World) (e : Ending) (w' : World) : Prop := ∃ q r : Int, e = .returned (.tuple #[.int .u64 q, .int .u64 r]) ∧ Below w.heap.size w w' ∧
  hi * 18446744073709551616 + lo = q * y + r ∧ 0 ≤ r ∧ r < y ∧ 0 ≤ q ∧ q < 18446744073709551616
theorem unwrap3 {U u Y q : Int} (F : Dg.KF U u Y q) (hY : Y < 18446744073709551616) : IntKind.u64.wrap (IntKind.u64.wrap (IntKind.u64.wrap (U * 4294967296) + u) - IntKind.u64.wrap (q * Y)) = U * 4294967296 + u - q * Y := by
  obtain ⟨_, _, h1, h2⟩ := F
  simp only [IntKind.wrap_u64]
  omega
theorem next_kd {U u u' Y q d1 d0 : Int} (F : Dg.KF U u Y q) (D : Dg.KD U u Y d1 d0) (h0 : 0 ≤ u') (h1 : u' < 4294967296) : Dg.KD (U * 4294967296 + u - q * Y) u' Y d1 d0 := by
  obtain ⟨_, _, f1, f2⟩ := F
  exact ⟨D.yd, D.a0, D.a1, D.b0, D.b1, h0, h1, by omega, by omega⟩
set_option maxHeartbeats 4000000 in
theorem div64_big (hi lo y : Int) (w : World) (hh : 0 < hi) (hy : hi < y) (hy1 : y < 18446744073709551616) (hl : 0 ≤ lo) (hl1 : lo < 18446744073709551616) :
    Calls Tryz.prog 148 #[.int .u64 hi, .int .u64 lo, .int .u64 y] w (DvRet hi lo y w) := by
  have t1 : (y == 0) = false := by simp; omega
  have t2 : (hi == 0) = false := by simp; omega
  go_enter Tryz.func148, Tryz.ntmps148
  go_wp2_with fail
  refine (lz64 y _ (by omega) hy1).mono ?_
  rintro e w' ⟨s, rfl, rfl, hs, hy2, hy3⟩
  have hp : (0 : Int) < 2 ^ s := Int.pow_pos (by omega)
  have hhy : hi * 2 ^ s + 2 ^ s ≤ y * 2 ^ s := by
    have := Int.mul_le_mul_of_nonneg_right (show hi + 1 ≤ y by omega) (Int.le_of_lt hp)
    rw [Int.add_mul] at this
    omega
  obtain ⟨U, L, eU, eL, hU, hL0, hL1, hUL, hd0, hd1⟩ := shl_two hi lo s hs (by omega) (by omega) hl hl1
  have hU0 : 0 ≤ U := by have := Int.mul_nonneg (show 0 ≤ hi by omega) (Int.le_of_lt hp); omega
  have hU1 : U < y * 2 ^ s := by omega
  have HPP := Lib.hid hp
  have HULX := Lib.hid hUL
  clear hhy hU hUL hd0 hd1 hp
  obtain ⟨Y, eY⟩ : ∃ Y, y * 2 ^ s = Y := ⟨_, rfl⟩
  rw [eY] at hy2 hy3 hU1
  obtain ⟨d1, e1⟩ : ∃ d1, Y / 4294967296 = d1 := ⟨_, rfl⟩
  obtain ⟨d0, e0⟩ : ∃ d0, bits .and .u64 Y 4294967295 = d0 := ⟨_, rfl⟩
  obtain ⟨u1, f1⟩ : ∃ u1, L / 4294967296 = u1 := ⟨_, rfl⟩
  obtain ⟨u0, f0⟩ : ∃ u0, bits .and .u64 L 4294967295 = u0 := ⟨_, rfl⟩
  have e0' := e0
  have f0' := f0
  rw [and_low32 Y (by omega) (by omega)] at e0'
  rw [and_low32 L (by omega) (by omega)] at f0'
  have D : Dg.KD U u1 Y d1 d0 := ⟨by omega, by omega, by omega, by omega, by omega, by omega, by omega, hU0, hU1⟩
  have hd1a : 2147483648 ≤ d1 := D.b0
  have hd1b : d1 < 4294967296 := D.b1
  have hd0a : 0 ≤ d0 := D.a0
  have hd0b : d0 < 4294967296 := D.a1
  have hu1a : 0 ≤ u1 := D.u0
  have hu1b : u1 < 4294967296 := D.u1
  have HD := Lib.hid D
  have HE0 := Lib.hid e0'
  have HF0 := Lib.hid f0'
  clear e0' f0'
  have K0 := Dg.KN.start D
  have hqa : 0 ≤ U / d1 * d1 := Int.mul_nonneg (Int.ediv_nonneg hU0 (by omega)) (by omega)
  have hqb : U / d1 * d1 ≤ U := Int.ediv_mul_le U (by omega)
  have hqc := K0.q1
  have hqd := K0.q0
  clear D
  obtain ⟨ri, eri⟩ : ∃ ri, U - U / d1 * d1 = ri := ⟨_, rfl⟩
  rw [eri] at K0
  have HK0 := Lib.hid K0
  clear K0
  go_wp2
  go_loop [15, 16] (fun a b => ∃ q r, a = .int .u64 q ∧ b = .int .u64 r ∧ Hid (Dg.KN U u1 Y d1 d0 q r)) (fun a _ => (intOf a).toNat)
  case atStart => exact ⟨_, _, rfl, rfl, HK0.out⟩
  case round =>
    obtain ⟨q, r, rfl, rfl, K⟩ := hrel
    have b1 := K.out.q0
    have b2 := K.out.q1
    have b3 := K.out.r0
    have b4 := K.out.r1
    have b5 : 0 ≤ q * d0 := Int.mul_nonneg b1 hd0a
    by_cases hA : 4294967296 ≤ q
    · by_cases hr : r + d1 < 4294967296
      · have K1 := Lib.hid (Dg.KN.less HD.out K.out (Or.inl hA) hr)
        go_wp2
        go_round
        case rel => exact ⟨_, _, rfl, rfl, K1.out⟩
        case measure => simp [intOf]; omega
      · have F := Dg.KN.over HD.out K.out (Or.inl hA) (by omega)
        obtain ⟨q1, eq1⟩ : ∃ q1, q - 1 = q1 := ⟨_, rfl⟩
        rw [eq1] at F
        have HF := Lib.hid F
        have hq1a := F.q0
        have hq1b := F.q1
        clear F
        obtain ⟨U2, hU2⟩ : ∃ U2, U2 = U * 4294967296 + u1 - q1 * Y := ⟨_, rfl⟩
        have eU2 : IntKind.u64.wrap (IntKind.u64.wrap (IntKind.u64.wrap (U * 4294967296) + u1) - IntKind.u64.wrap (q1 * Y)) = U2 := by rw [hU2]; exact unwrap3 HF.out hy3
        have D2 : Dg.KD U2 u0 Y d1 d0 := by rw [hU2]; exact next_kd HF.out HD.out (by have := HF0.out; omega) (by have := HF0.out; omega)
        have HU2 := Lib.hid hU2
        clear hU2
        have hU20 := D2.U0
        have hU21 := D2.U1
        have hu0a := D2.u0
        have hu0b := D2.u1
        have HD2 := Lib.hid D2
        have K02 := Dg.KN.start D2
        have hqa2 : 0 ≤ U2 / d1 * d1 := Int.mul_nonneg (Int.ediv_nonneg hU20 (by omega)) (by omega)
        have hqb2 : U2 / d1 * d1 ≤ U2 := Int.ediv_mul_le U2 (by omega)
        have hqc2 := K02.q1
        have hqd2 := K02.q0
        clear D2
        obtain ⟨r2, er2⟩ : ∃ r2, U2 - U2 / d1 * d1 = r2 := ⟨_, rfl⟩
        rw [er2] at K02
        have HK02 := Lib.hid K02
        clear K02
        go_wp2
        go_loop [18, 16] (fun a b => ∃ q r, a = .int .u64 q ∧ b = .int .u64 r ∧ Hid (Dg.KN U2 u0 Y d1 d0 q r)) (fun a _ => (intOf a).toNat)
        case atStart => exact ⟨_, _, rfl, rfl, HK02.out⟩
        case round =>
          clear K b1 b2 b3 b4 b5
          obtain ⟨q, r, rfl, rfl, K⟩ := hrel
          have b1 := K.out.q0
          have b2 := K.out.q1
          have b3 := K.out.r0
          have b4 := K.out.r1
          have b5 : 0 ≤ q * d0 := Int.mul_nonneg b1 hd0a
          by_cases hA : 4294967296 ≤ q
          · by_cases hr : r + d1 < 4294967296
            · have K1 := Lib.hid (Dg.KN.less HD2.out K.out (Or.inl hA) hr)
              go_wp2
              go_round
              case rel => exact ⟨_, _, rfl, rfl, K1.out⟩
              case measure => simp [intOf]; omega
            · have F2 := Dg.KN.over HD2.out K.out (Or.inl hA) (by omega)
              obtain ⟨p1, ep1⟩ : ∃ q1, q - 1 = q1 := ⟨_, rfl⟩
              rw [ep1] at F2
              have HF2 := Lib.hid (show Dg.KF U2 u0 Y p1 from F2)
              have hp1a := F2.q0
              have hp1b := F2.q1
              clear F2
              obtain ⟨R2, hR2⟩ : ∃ R2, R2 = U2 * 4294967296 + u0 - p1 * Y := ⟨_, rfl⟩
              have eR2 : IntKind.u64.wrap (IntKind.u64.wrap (IntKind.u64.wrap (U2 * 4294967296) + u0) - IntKind.u64.wrap (p1 * Y)) = R2 := by rw [hR2]; exact unwrap3 HF2.out hy3
              have HR2 := Lib.hid hR2
              clear hR2
              have hR20 : 0 ≤ R2 := by have := HF2.out.lo; have := HR2.out; omega
              go_wp2
              go_ret2
              have hfin := Dg.knuth_done HPP.out eY (hi := hi) (lo := lo) (U := U) (u1 := u1) (u0 := u0) (by have := HULX.out; have := HF0.out; omega) HF.out (by have := HF2.out; rw [HU2.out] at this; exact this)
              rw [← HU2.out, ← HR2.out] at hfin
              refine ⟨_, R2 / 2 ^ s, rfl, Below.refl _ _, ?_, ?_, ?_, ?_, ?_⟩
              · rw [hfin.1]; omega
              · rw [hfin.1]; exact hfin.2.1
              · rw [hfin.1]; exact hfin.2.2
              · omega
              · omega
          · have b6 : q * d0 ≤ 4294967295 * 4294967295 := Int.mul_le_mul (by omega) (by omega) hd0a (by omega)
            by_cases hB : 4294967296 * r + u0 < q * d0
            · by_cases hr : r + d1 < 4294967296
              · have K1 := Lib.hid (Dg.KN.less HD2.out K.out (Or.inr ⟨by omega, hB⟩) hr)
                have hq1 : 1 ≤ q := (Dg.KN.step HD2.out K.out (Or.inr ⟨by omega, hB⟩)).1
                go_wp2
                go_round
                case rel => exact ⟨_, _, rfl, rfl, K1.out⟩
                case measure => simp [intOf]; omega
              · have F2 := Dg.KN.over HD2.out K.out (Or.inr ⟨by omega, hB⟩) (by omega)
                have hq1 : 1 ≤ q := (Dg.KN.step HD2.out K.out (Or.inr ⟨by omega, hB⟩)).1
                obtain ⟨p1, ep1⟩ : ∃ q1, q - 1 = q1 := ⟨_, rfl⟩
                rw [ep1] at F2
                have HF2 := Lib.hid (show Dg.KF U2 u0 Y p1 from F2)
                have hp1a := F2.q0
                have hp1b := F2.q1
                clear F2
                obtain ⟨R2, hR2⟩ : ∃ R2, R2 = U2 * 4294967296 + u0 - p1 * Y := ⟨_, rfl⟩
                have eR2 : IntKind.u64.wrap (IntKind.u64.wrap (IntKind.u64.wrap (U2 * 4294967296) + u0) - IntKind.u64.wrap (p1 * Y)) = R2 := by rw [hR2]; exact unwrap3 HF2.out hy3
                have HR2 := Lib.hid hR2
                clear hR2
                have hR20 : 0 ≤ R2 := by have := HF2.out.lo; have := HR2.out; omega
                go_wp2
                go_ret2
                have hfin := Dg.knuth_done HPP.out eY (hi := hi) (lo := lo) (U := U) (u1 := u1) (u0 := u0) (by have := HULX.out; have := HF0.out; omega) HF.out (by have := HF2.out; rw [HU2.out] at this; exact this)
                rw [← HU2.out, ← HR2.out] at hfin
                refine ⟨_, R2 / 2 ^ s, rfl, Below.refl _ _, ?_, ?_, ?_, ?_, ?_⟩
                · rw [hfin.1]; omega
                · rw [hfin.1]; exact hfin.2.1
                · rw [hfin.1]; exact hfin.2.2
                · omega
                · omega
            · have F2 := Dg.KN.stop HD2.out K.out (by omega) (by omega)
              obtain ⟨p1, rfl⟩ : ∃ q1, q1 = q := ⟨_, rfl⟩
              have HF2 := Lib.hid (show Dg.KF U2 u0 Y p1 from F2)
              have hp1a := F2.q0
              have hp1b := F2.q1
              clear F2
              obtain ⟨R2, hR2⟩ : ∃ R2, R2 = U2 * 4294967296 + u0 - p1 * Y := ⟨_, rfl⟩
              have eR2 : IntKind.u64.wrap (IntKind.u64.wrap (IntKind.u64.wrap (U2 * 4294967296) + u0) - IntKind.u64.wrap (p1 * Y)) = R2 := by rw [hR2]; exact unwrap3 HF2.out hy3
              have HR2 := Lib.hid hR2
              clear hR2
              have hR20 : 0 ≤ R2 := by have := HF2.out.lo; have := HR2.out; omega
              go_wp2
              go_ret2
              have hfin := Dg.knuth_done HPP.out eY (hi := hi) (lo := lo) (U := U) (u1 := u1) (u0 := u0) (by have := HULX.out; have := HF0.out; omega) HF.out (by have := HF2.out; rw [HU2.out] at this; exact this)
              rw [← HU2.out, ← HR2.out] at hfin
              refine ⟨_, R2 / 2 ^ s, rfl, Below.refl _ _, ?_, ?_, ?_, ?_, ?_⟩
              · rw [hfin.1]; omega
              · rw [hfin.1]; exact hfin.2.1
              · rw [hfin.1]; exact hfin.2.2
              · omega
              · omega
    · have b6 : q * d0 ≤ 4294967295 * 4294967295 := Int.mul_le_mul (by omega) (by omega) hd0a (by omega)
      by_cases hB : 4294967296 * r + u1 < q * d0
      · by_cases hr : r + d1 < 4294967296
        · have K1 := Lib.hid (Dg.KN.less HD.out K.out (Or.inr ⟨by omega, hB⟩) hr)
          have hq1 : 1 ≤ q := (Dg.KN.step HD.out K.out (Or.inr ⟨by omega, hB⟩)).1
          go_wp2
          go_round
          case rel => exact ⟨_, _, rfl, rfl, K1.out⟩
          case measure => simp [intOf]; omega
        · have F := Dg.KN.over HD.out K.out (Or.inr ⟨by omega, hB⟩) (by omega)
          have hq1 : 1 ≤ q := (Dg.KN.step HD.out K.out (Or.inr ⟨by omega, hB⟩)).1
          obtain ⟨q1, eq1⟩ : ∃ q1, q - 1 = q1 := ⟨_, rfl⟩
          rw [eq1] at F
          have HF := Lib.hid F
          have hq1a := F.q0
          have hq1b := F.q1
          clear F
          obtain ⟨U2, hU2⟩ : ∃ U2, U2 = U * 4294967296 + u1 - q1 * Y := ⟨_, rfl⟩
          have eU2 : IntKind.u64.wrap (IntKind.u64.wrap (IntKind.u64.wrap (U * 4294967296) + u1) - IntKind.u64.wrap (q1 * Y)) = U2 := by rw [hU2]; exact unwrap3 HF.out hy3
          have D2 : Dg.KD U2 u0 Y d1 d0 := by rw [hU2]; exact next_kd HF.out HD.out (by have := HF0.out; omega) (by have := HF0.out; omega)
          have HU2 := Lib.hid hU2
          clear hU2
          have hU20 := D2.U0
          have hU21 := D2.U1
          have hu0a := D2.u0
          have hu0b := D2.u1
          have HD2 := Lib.hid D2
          have K02 := Dg.KN.start D2
          have hqa2 : 0 ≤ U2 / d1 * d1 := Int.mul_nonneg (Int.ediv_nonneg hU20 (by omega)) (by omega)
          have hqb2 : U2 / d1 * d1 ≤ U2 := Int.ediv_mul_le U2 (by omega)
          have hqc2 := K02.q1
          have hqd2 := K02.q0
          clear D2
          obtain ⟨r2, er2⟩ : ∃ r2, U2 - U2 / d1 * d1 = r2 := ⟨_, rfl⟩
          rw [er2] at K02
          have HK02 := Lib.hid K02
          clear K02
          go_wp2
          go_loop [18, 16] (fun a b => ∃ q r, a = .int .u64 q ∧ b = .int .u64 r ∧ Hid (Dg.KN U2 u0 Y d1 d0 q r)) (fun a _ => (intOf a).toNat)
          case atStart => exact ⟨_, _, rfl, rfl, HK02.out⟩
          case round =>
            clear K b1 b2 b3 b4 b5
            obtain ⟨q, r, rfl, rfl, K⟩ := hrel
            have b1 := K.out.q0
            have b2 := K.out.q1
            have b3 := K.out.r0
            have b4 := K.out.r1
            have b5 : 0 ≤ q * d0 := Int.mul_nonneg b1 hd0a
            by_cases hA : 4294967296 ≤ q
            · by_cases hr : r + d1 < 4294967296
              · have K1 := Lib.hid (Dg.KN.less HD2.out K.out (Or.inl hA) hr)
                go_wp2
                go_round
                case rel => exact ⟨_, _, rfl, rfl, K1.out⟩
                case measure => simp [intOf]; omega
              · have F2 := Dg.KN.over HD2.out K.out (Or.inl hA) (by omega)
                obtain ⟨p1, ep1⟩ : ∃ q1, q - 1 = q1 := ⟨_, rfl⟩
                rw [ep1] at F2
                have HF2 := Lib.hid (show Dg.KF U2 u0 Y p1 from F2)
                have hp1a := F2.q0
                have hp1b := F2.q1
                clear F2
                obtain ⟨R2, hR2⟩ : ∃ R2, R2 = U2 * 4294967296 + u0 - p1 * Y := ⟨_, rfl⟩
                have eR2 : IntKind.u64.wrap (IntKind.u64.wrap (IntKind.u64.wrap (U2 * 4294967296) + u0) - IntKind.u64.wrap (p1 * Y)) = R2 := by rw [hR2]; exact unwrap3 HF2.out hy3
                have HR2 := Lib.hid hR2
                clear hR2
                have hR20 : 0 ≤ R2 := by have := HF2.out.lo; have := HR2.out; omega
                go_wp2
                go_ret2
                have hfin := Dg.knuth_done HPP.out eY (hi := hi) (lo := lo) (U := U) (u1 := u1) (u0 := u0) (by have := HULX.out; have := HF0.out; omega) HF.out (by have := HF2.out; rw [HU2.out] at this; exact this)
                rw [← HU2.out, ← HR2.out] at hfin
                refine ⟨_, R2 / 2 ^ s, rfl, Below.refl _ _, ?_, ?_, ?_, ?_, ?_⟩
                · rw [hfin.1]; omega
                · rw [hfin.1]; exact hfin.2.1
                · rw [hfin.1]; exact hfin.2.2
                · omega
                · omega
            · have b6 : q * d0 ≤ 4294967295 * 4294967295 := Int.mul_le_mul (by omega) (by omega) hd0a (by omega)
              by_cases hB : 4294967296 * r + u0 < q * d0
              · by_cases hr : r + d1 < 4294967296
                · have K1 := Lib.hid (Dg.KN.less HD2.out K.out (Or.inr ⟨by omega, hB⟩) hr)
                  have hq1 : 1 ≤ q := (Dg.KN.step HD2.out K.out (Or.inr ⟨by omega, hB⟩)).1
                  go_wp2
                  go_round
                  case rel => exact ⟨_, _, rfl, rfl, K1.out⟩
                  case measure => simp [intOf]; omega
                · have F2 := Dg.KN.over HD2.out K.out (Or.inr ⟨by omega, hB⟩) (by omega)
                  have hq1 : 1 ≤ q := (Dg.KN.step HD2.out K.out (Or.inr ⟨by omega, hB⟩)).1
                  obtain ⟨p1, ep1⟩ : ∃ q1, q - 1 = q1 := ⟨_, rfl⟩
                  rw [ep1] at F2
                  have HF2 := Lib.hid (show Dg.KF U2 u0 Y p1 from F2)
                  have hp1a := F2.q0
                  have hp1b := F2.q1
                  clear F2
                  obtain ⟨R2, hR2⟩ : ∃ R2, R2 = U2 * 4294967296 + u0 - p1 * Y := ⟨_, rfl⟩
                  have eR2 : IntKind.u64.wrap (IntKind.u64.wrap (IntKind.u64.wrap (U2 * 4294967296) + u0) - IntKind.u64.wrap (p1 * Y)) = R2 := by rw [hR2]; exact unwrap3 HF2.out hy3
                  have HR2 := Lib.hid hR2
                  clear hR2
                  have hR20 : 0 ≤ R2 := by have := HF2.out.lo; have := HR2.out; omega
                  go_wp2
                  go_ret2
                  have hfin := Dg.knuth_done HPP.out eY (hi := hi) (lo := lo) (U := U) (u1 := u1) (u0 := u0) (by have := HULX.out; have := HF0.out; omega) HF.out (by have := HF2.out; rw [HU2.out] at this; exact this)
                  rw [← HU2.out, ← HR2.out] at hfin
                  refine ⟨_, R2 / 2 ^ s, rfl, Below.refl _ _, ?_, ?_, ?_, ?_, ?_⟩
                  · rw [hfin.1]; omega
                  · rw [hfin.1]; exact hfin.2.1
                  · rw [hfin.1]; exact hfin.2.2
                  · omega
                  · omega
              · have F2 := Dg.KN.stop HD2.out K.out (by omega) (by omega)
                obtain ⟨p1, rfl⟩ : ∃ q1, q1 = q := ⟨_, rfl⟩
                have HF2 := Lib.hid (show Dg.KF U2 u0 Y p1 from F2)
                have hp1a := F2.q0
                have hp1b := F2.q1
                clear F2
                obtain ⟨R2, hR2⟩ : ∃ R2, R2 = U2 * 4294967296 + u0 - p1 * Y := ⟨_, rfl⟩
                have eR2 : IntKind.u64.wrap (IntKind.u64.wrap (IntKind.u64.wrap (U2 * 4294967296) + u0) - IntKind.u64.wrap (p1 * Y)) = R2 := by rw [hR2]; exact unwrap3 HF2.out hy3
                have HR2 := Lib.hid hR2
                clear hR2
                have hR20 : 0 ≤ R2 := by have := HF2.out.lo; have := HR2.out; omega
                go_wp2
                go_ret2
                have hfin := Dg.knuth_done HPP.out eY (hi := hi) (lo := lo) (U := U) (u1 := u1) (u0 := u0) (by have := HULX.out; have := HF0.out; omega) HF.out (by have := HF2.out; rw [HU2.out] at this; exact this)
                rw [← HU2.out, ← HR2.out] at hfin
                refine ⟨_, R2 / 2 ^ s, rfl, Below.refl _ _, ?_, ?_, ?_, ?_, ?_⟩
                · rw [hfin.1]; omega
                · rw [hfin.1]; exact hfin.2.1
                · rw [hfin.1]; exact hfin.2.2
                · omega
                · omega
      · have F := Dg.KN.stop HD.out K.out (by omega) (by omega)
        obtain ⟨q1, rfl⟩ : ∃ q1, q1 = q := ⟨_, rfl⟩
        have HF := Lib.hid F
        have hq1a := F.q0
        have hq1b := F.q1
        clear F
        obtain ⟨U2, hU2⟩ : ∃ U2, U2 = U * 4294967296 + u1 - q1 * Y := ⟨_, rfl⟩
        have eU2 : IntKind.u64.wrap (IntKind.u64.wrap (IntKind.u64.wrap (U * 4294967296) + u1) - IntKind.u64.wrap (q1 * Y)) = U2 := by rw [hU2]; exact unwrap3 HF.out hy3
        have D2 : Dg.KD U2 u0 Y d1 d0 := by rw [hU2]; exact next_kd HF.out HD.out (by have := HF0.out; omega) (by have := HF0.out; omega)
        have HU2 := Lib.hid hU2
        clear hU2
        have hU20 := D2.U0
        have hU21 := D2.U1
        have hu0a := D2.u0
        have hu0b := D2.u1
        have HD2 := Lib.hid D2
        have K02 := Dg.KN.start D2
        have hqa2 : 0 ≤ U2 / d1 * d1 := Int.mul_nonneg (Int.ediv_nonneg hU20 (by omega)) (by omega)
        have hqb2 : U2 / d1 * d1 ≤ U2 := Int.ediv_mul_le U2 (by omega)
        have hqc2 := K02.q1
        have hqd2 := K02.q0
        clear D2
        obtain ⟨r2, er2⟩ : ∃ r2, U2 - U2 / d1 * d1 = r2 := ⟨_, rfl⟩
        rw [er2] at K02
        have HK02 := Lib.hid K02
        clear K02
        go_wp2
        go_loop [18, 16] (fun a b => ∃ q r, a = .int .u64 q ∧ b = .int .u64 r ∧ Hid (Dg.KN U2 u0 Y d1 d0 q r)) (fun a _ => (intOf a).toNat)
        case atStart => exact ⟨_, _, rfl, rfl, HK02.out⟩
        case round =>
          clear K b1 b2 b3 b4 b5
          obtain ⟨q, r, rfl, rfl, K⟩ := hrel
          have b1 := K.out.q0
          have b2 := K.out.q1
          have b3 := K.out.r0
          have b4 := K.out.r1
          have b5 : 0 ≤ q * d0 := Int.mul_nonneg b1 hd0a
          by_cases hA : 4294967296 ≤ q
          · by_cases hr : r + d1 < 4294967296
            · have K1 := Lib.hid (Dg.KN.less HD2.out K.out (Or.inl hA) hr)
              go_wp2
              go_round
              case rel => exact ⟨_, _, rfl, rfl, K1.out⟩
              case measure => simp [intOf]; omega
            · have F2 := Dg.KN.over HD2.out K.out (Or.inl hA) (by omega)
              obtain ⟨p1, ep1⟩ : ∃ q1, q - 1 = q1 := ⟨_, rfl⟩
              rw [ep1] at F2
              have HF2 := Lib.hid (show Dg.KF U2 u0 Y p1 from F2)
              have hp1a := F2.q0
              have hp1b := F2.q1
              clear F2
              obtain ⟨R2, hR2⟩ : ∃ R2, R2 = U2 * 4294967296 + u0 - p1 * Y := ⟨_, rfl⟩
              have eR2 : IntKind.u64.wrap (IntKind.u64.wrap (IntKind.u64.wrap (U2 * 4294967296) + u0) - IntKind.u64.wrap (p1 * Y)) = R2 := by rw [hR2]; exact unwrap3 HF2.out hy3
              have HR2 := Lib.hid hR2
              clear hR2
              have hR20 : 0 ≤ R2 := by have := HF2.out.lo; have := HR2.out; omega
              go_wp2
              go_ret2
              have hfin := Dg.knuth_done HPP.out eY (hi := hi) (lo := lo) (U := U) (u1 := u1) (u0 := u0) (by have := HULX.out; have := HF0.out; omega) HF.out (by have := HF2.out; rw [HU2.out] at this; exact this)
              rw [← HU2.out, ← HR2.out] at hfin
              refine ⟨_, R2 / 2 ^ s, rfl, Below.refl _ _, ?_, ?_, ?_, ?_, ?_⟩
              · rw [hfin.1]; omega
              · rw [hfin.1]; exact hfin.2.1
              · rw [hfin.1]; exact hfin.2.2
              · omega
              · omega
          · have b6 : q * d0 ≤ 4294967295 * 4294967295 := Int.mul_le_mul (by omega) (by omega) hd0a (by omega)
            by_cases hB : 4294967296 * r + u0 < q * d0
            · by_cases hr : r + d1 < 4294967296
              · have K1 := Lib.hid (Dg.KN.less HD2.out K.out (Or.inr ⟨by omega, hB⟩) hr)
                have hq1 : 1 ≤ q := (Dg.KN.step HD2.out K.out (Or.inr ⟨by omega, hB⟩)).1
                go_wp2
                go_round
                case rel => exact ⟨_, _, rfl, rfl, K1.out⟩
                case measure => simp [intOf]; omega
              · have F2 := Dg.KN.over HD2.out K.out (Or.inr ⟨by omega, hB⟩) (by omega)
                have hq1 : 1 ≤ q := (Dg.KN.step HD2.out K.out (Or.inr ⟨by omega, hB⟩)).1
                obtain ⟨p1, ep1⟩ : ∃ q1, q - 1 = q1 := ⟨_, rfl⟩
                rw [ep1] at F2
                have HF2 := Lib.hid (show Dg.KF U2 u0 Y p1 from F2)
                have hp1a := F2.q0
                have hp1b := F2.q1
                clear F2
                obtain ⟨R2, hR2⟩ : ∃ R2, R2 = U2 * 4294967296 + u0 - p1 * Y := ⟨_, rfl⟩
                have eR2 : IntKind.u64.wrap (IntKind.u64.wrap (IntKind.u64.wrap (U2 * 4294967296) + u0) - IntKind.u64.wrap (p1 * Y)) = R2 := by rw [hR2]; exact unwrap3 HF2.out hy3
                have HR2 := Lib.hid hR2
                clear hR2
                have hR20 : 0 ≤ R2 := by have := HF2.out.lo; have := HR2.out; omega
                go_wp2
                go_ret2
                have hfin := Dg.knuth_done HPP.out eY (hi := hi) (lo := lo) (U := U) (u1 := u1) (u0 := u0) (by have := HULX.out; have := HF0.out; omega) HF.out (by have := HF2.out; rw [HU2.out] at this; exact this)
                rw [← HU2.out, ← HR2.out] at hfin
                refine ⟨_, R2 / 2 ^ s, rfl, Below.refl _ _, ?_, ?_, ?_, ?_, ?_⟩
                · rw [hfin.1]; omega
                · rw [hfin.1]; exact hfin.2.1
                · rw [hfin.1]; exact hfin.2.2
                · omega
                · omega
            · have F2 := Dg.KN.stop HD2.out K.out (by omega) (by omega)
              obtain ⟨p1, rfl⟩ : ∃ q1, q1 = q := ⟨_, rfl⟩
              have HF2 := Lib.hid (show Dg.KF U2 u0 Y p1 from F2)
              have hp1a := F2.q0
              have hp1b := F2.q1
              clear F2
              obtain ⟨R2, hR2⟩ : ∃ R2, R2 = U2 * 4294967296 + u0 - p1 * Y := ⟨_, rfl⟩
              have eR2 : IntKind.u64.wrap (IntKind.u64.wrap (IntKind.u64.wrap (U2 * 4294967296) + u0) - IntKind.u64.wrap (p1 * Y)) = R2 := by rw [hR2]; exact unwrap3 HF2.out hy3
              have HR2 := Lib.hid hR2
              clear hR2
              have hR20 : 0 ≤ R2 := by have := HF2.out.lo; have := HR2.out; omega
              go_wp2
              go_ret2
              have hfin := Dg.knuth_done HPP.out eY (hi := hi) (lo := lo) (U := U) (u1 := u1) (u0 := u0) (by have := HULX.out; have := HF0.out; omega) HF.out (by have := HF2.out; rw [HU2.out] at this; exact this)
              rw [← HU2.out, ← HR2.out] at hfin
              refine ⟨_, R2 / 2 ^ s, rfl, Below.refl _ _, ?_, ?_, ?_, ?_, ?_⟩
              · rw [hfin.1]; omega
              · rw [hfin.1]; exact hfin.2.1
              · rw [hfin.1]; exact hfin.2.2
              · omega
              · omega
end Go.Proofs.YtblbheilddafbaaGreatDoor
