/-
  Texts of the proof, merged by program: TDv2 TDv3 TDw TOne TScale TStr TTxt TSplit TRead TRev TDec TWrite TInt1 TInt2 TBits.
-/
import Derived.Test.YtdnheaafcbihbaaGreatTq7
import Derived.Lib.ParseIntB
import Derived.Lib.SmallJoins
import Derived.Lib.IndexBytes
import Derived.Deep.LoopGhost
import Derived.Laws.IdiomStrings
set_option linter.unusedSimpArgs false
set_option linter.unusedVariables false
set_option maxHeartbeats 16000000
namespace Go.Proofs.YtdnheaafcbihbaaGreat
open Go Go.RowKit
def DvRet (hi lo y : Int) (w : World) (e : Ending) (w' : World) : Prop := ∃ q r : Int, e = .returned (.tuple #[.int .u64 q, .int .u64 r]) /\ Below w.heap.size w w' /\
 hi * 18446744073709551616 + lo = q * y + r /\ 0 <= r /\ r < y /\ 0 <= q /\ q < 18446744073709551616
theorem unwrap3 {U u Y q : Int} (F : Dg.KF U u Y q) (hY : Y < 18446744073709551616) : IntKind.u64.wrap (IntKind.u64.wrap (IntKind.u64.wrap (U * 4294967296) + u) - IntKind.u64.wrap (q * Y)) = U * 4294967296 + u - q * Y := by
 obtain ⟨_, _, h1, h2⟩ := F
 simp only [IntKind.wrap_u64]
 omega
theorem next_kd {U u u' Y q d1 d0 : Int} (F : Dg.KF U u Y q) (D : Dg.KD U u Y d1 d0) (h0 : 0 <= u') (h1 : u' < 4294967296) : Dg.KD (U * 4294967296 + u - q * Y) u' Y d1 d0 := by
 obtain ⟨_, _, f1, f2⟩ := F
 exact ⟨D.yd, D.a0, D.a1, D.b0, D.b1, h0, h1, by omega, by omega⟩
theorem div64_big (hi lo y : Int) (w : World) (hh : 0 < hi) (hy : hi < y) (hy1 : y < 18446744073709551616) (hl : 0 <= lo) (hl1 : lo < 18446744073709551616) :
 Calls Tryz.prog 254 #[.int .u64 hi, .int .u64 lo, .int .u64 y] w (DvRet hi lo y w) := by
 have t1 : (y == 0) = false := by simp; omega
 have t2 : (hi == 0) = false := by simp; omega
 go_enter Tryz.func254, Tryz.ntmps254
 go_wp2_with fail
 refine (lz64 y _ (by omega) hy1).mono ?_
 rintro e w' ⟨s, rfl, rfl, hs, hy2, hy3⟩
 have hp : (0 : Int) < 2 ^ s := Int.pow_pos (by omega)
 have hhy : hi * 2 ^ s + 2 ^ s <= y * 2 ^ s := by
  have := Int.mul_le_mul_of_nonneg_right (show hi + 1 <= y by omega) (Int.le_of_lt hp)
  rw [Int.add_mul] at this
  omega
 obtain ⟨U, L, eU, eL, hU, hL0, hL1, hUL, hd0, hd1⟩ := shl_two hi lo s hs (by omega) (by omega) hl hl1
 have hU0 : 0 <= U := by have := Int.mul_nonneg (show 0 <= hi by omega) (Int.le_of_lt hp); omega
 have hU1 : U < y * 2 ^ s := by omega
 have HPP := Lib.hid hp
 have HULX := Lib.hid hUL
 clear hhy hU hUL hd0 hd1 hp
 obtain ⟨Y, eY⟩ : ∃ Y, y * 2 ^ s = Y := ⟨_, rfl⟩
 rw [eY] at hy2 hy3 hU1
 obtain ⟨d1, e1⟩ : ∃ d1, Y / 4294967296 = d1 := ⟨_, rfl⟩
 obtain ⟨d0, e0⟩ : ∃ d0, bits .and .u64 Y 4294967295 = d0 := ⟨_, rfl⟩
 obtain ⟨u1, f1⟩ : ∃ u1, L / 4294967296 = u1 := ⟨_, rfl⟩
 obtain ⟨u0, f0⟩ : ∃ u0, bits .and .u64 L 4294967295 = u0 := ⟨_, rfl⟩
 have e0' := e0
 have f0' := f0
 rw [and_low32 Y (by omega) (by omega)] at e0'
 rw [and_low32 L (by omega) (by omega)] at f0'
 have D : Dg.KD U u1 Y d1 d0 := ⟨by omega, by omega, by omega, by omega, by omega, by omega, by omega, hU0, hU1⟩
 have hd1a : 2147483648 <= d1 := D.b0
 have hd1b : d1 < 4294967296 := D.b1
 have hd0a : 0 <= d0 := D.a0
 have hd0b : d0 < 4294967296 := D.a1
 have hu1a : 0 <= u1 := D.u0
 have hu1b : u1 < 4294967296 := D.u1
 have HD := Lib.hid D
 have HE0 := Lib.hid e0'
 have HF0 := Lib.hid f0'
 clear e0' f0'
 have K0 := Dg.KN.start D
 have hqa : 0 <= U / d1 * d1 := Int.mul_nonneg (Int.ediv_nonneg hU0 (by omega)) (by omega)
 have hqb : U / d1 * d1 <= U := Int.ediv_mul_le U (by omega)
 have hqc := K0.q1
 have hqd := K0.q0
 clear D
 obtain ⟨ri, eri⟩ : ∃ ri, U - U / d1 * d1 = ri := ⟨_, rfl⟩
 rw [eri] at K0
 have HK0 := Lib.hid K0
 clear K0
 go_wp2
 go_loop [15, 16] (fun a b => ∃ q r, a = .int .u64 q /\ b = .int .u64 r /\ Hid (Dg.KN U u1 Y d1 d0 q r)) (fun a _ => (intOf a).toNat)
 case atStart => exact ⟨_, _, rfl, rfl, HK0.out⟩
 case round =>
  obtain ⟨q, r, rfl, rfl, K⟩ := hrel
  have b1 := K.out.q0
  have b2 := K.out.q1
  have b3 := K.out.r0
  have b4 := K.out.r1
  have b5 : 0 <= q * d0 := Int.mul_nonneg b1 hd0a
  by_cases hA : 4294967296 <= q
  ·by_cases hr : r + d1 < 4294967296
   ·have K1 := Lib.hid (Dg.KN.less HD.out K.out (Or.inl hA) hr)
    go_wp2
    go_round
    case rel => exact ⟨_, _, rfl, rfl, K1.out⟩
    case measure => simp [intOf]; omega
   ·have F := Dg.KN.over HD.out K.out (Or.inl hA) (by omega)
    obtain ⟨q1, eq1⟩ : ∃ q1, q - 1 = q1 := ⟨_, rfl⟩
    rw [eq1] at F
    have HF := Lib.hid F
    have hq1a := F.q0
    have hq1b := F.q1
    clear F
    obtain ⟨U2, hU2⟩ : ∃ U2, U2 = U * 4294967296 + u1 - q1 * Y := ⟨_, rfl⟩
    have eU2 : IntKind.u64.wrap (IntKind.u64.wrap (IntKind.u64.wrap (U * 4294967296) + u1) - IntKind.u64.wrap (q1 * Y)) = U2 := by rw [hU2]; exact unwrap3 HF.out hy3
    have D2 : Dg.KD U2 u0 Y d1 d0 := by rw [hU2]; exact next_kd HF.out HD.out (by have := HF0.out; omega) (by have := HF0.out; omega)
    have HU2 := Lib.hid hU2
    clear hU2
    have hU20 := D2.U0
    have hU21 := D2.U1
    have hu0a := D2.u0
    have hu0b := D2.u1
    have HD2 := Lib.hid D2
    have K02 := Dg.KN.start D2
    have hqa2 : 0 <= U2 / d1 * d1 := Int.mul_nonneg (Int.ediv_nonneg hU20 (by omega)) (by omega)
    have hqb2 : U2 / d1 * d1 <= U2 := Int.ediv_mul_le U2 (by omega)
    have hqc2 := K02.q1
    have hqd2 := K02.q0
    clear D2
    obtain ⟨r2, er2⟩ : ∃ r2, U2 - U2 / d1 * d1 = r2 := ⟨_, rfl⟩
    rw [er2] at K02
    have HK02 := Lib.hid K02
    clear K02
    go_wp2
    go_loop [18, 16] (fun a b => ∃ q r, a = .int .u64 q /\ b = .int .u64 r /\ Hid (Dg.KN U2 u0 Y d1 d0 q r)) (fun a _ => (intOf a).toNat)
    case atStart => exact ⟨_, _, rfl, rfl, HK02.out⟩
    case round =>
     clear K b1 b2 b3 b4 b5
     obtain ⟨q, r, rfl, rfl, K⟩ := hrel
     have b1 := K.out.q0
     have b2 := K.out.q1
     have b3 := K.out.r0
     have b4 := K.out.r1
     have b5 : 0 <= q * d0 := Int.mul_nonneg b1 hd0a
     by_cases hA : 4294967296 <= q
     ·by_cases hr : r + d1 < 4294967296
      ·have K1 := Lib.hid (Dg.KN.less HD2.out K.out (Or.inl hA) hr)
       go_wp2
       go_round
       case rel => exact ⟨_, _, rfl, rfl, K1.out⟩
       case measure => simp [intOf]; omega
      ·have F2 := Dg.KN.over HD2.out K.out (Or.inl hA) (by omega)
       obtain ⟨p1, ep1⟩ : ∃ q1, q - 1 = q1 := ⟨_, rfl⟩
       rw [ep1] at F2
       have HF2 := Lib.hid (show Dg.KF U2 u0 Y p1 from F2)
       have hp1a := F2.q0
       have hp1b := F2.q1
       clear F2
       obtain ⟨R2, hR2⟩ : ∃ R2, R2 = U2 * 4294967296 + u0 - p1 * Y := ⟨_, rfl⟩
       have eR2 : IntKind.u64.wrap (IntKind.u64.wrap (IntKind.u64.wrap (U2 * 4294967296) + u0) - IntKind.u64.wrap (p1 * Y)) = R2 := by rw [hR2]; exact unwrap3 HF2.out hy3
       have HR2 := Lib.hid hR2
       clear hR2
       have hR20 : 0 <= R2 := by have := HF2.out.lo; have := HR2.out; omega
       go_wp2
       go_ret2
       have hfin := Dg.knuth_done HPP.out eY (hi := hi) (lo := lo) (U := U) (u1 := u1) (u0 := u0) (by have := HULX.out; have := HF0.out; omega) HF.out (by have := HF2.out; rw [HU2.out] at this; exact this)
       rw [<- HU2.out, <- HR2.out] at hfin
       refine ⟨_, R2 / 2 ^ s, rfl, Below.refl _ _, ?_, ?_, ?_, ?_, ?_⟩
       ·rw [hfin.1]; omega
       ·rw [hfin.1]; exact hfin.2.1
       ·rw [hfin.1]; exact hfin.2.2
       ·omega
       ·omega
     ·have b6 : q * d0 <= 4294967295 * 4294967295 := Int.mul_le_mul (by omega) (by omega) hd0a (by omega)
      by_cases hB : 4294967296 * r + u0 < q * d0
      ·by_cases hr : r + d1 < 4294967296
       ·have K1 := Lib.hid (Dg.KN.less HD2.out K.out (Or.inr ⟨by omega, hB⟩) hr)
        have hq1 : 1 <= q := (Dg.KN.step HD2.out K.out (Or.inr ⟨by omega, hB⟩)).1
        go_wp2
        go_round
        case rel => exact ⟨_, _, rfl, rfl, K1.out⟩
        case measure => simp [intOf]; omega
       ·have F2 := Dg.KN.over HD2.out K.out (Or.inr ⟨by omega, hB⟩) (by omega)
        have hq1 : 1 <= q := (Dg.KN.step HD2.out K.out (Or.inr ⟨by omega, hB⟩)).1
        obtain ⟨p1, ep1⟩ : ∃ q1, q - 1 = q1 := ⟨_, rfl⟩
        rw [ep1] at F2
        have HF2 := Lib.hid (show Dg.KF U2 u0 Y p1 from F2)
        have hp1a := F2.q0
        have hp1b := F2.q1
        clear F2
        obtain ⟨R2, hR2⟩ : ∃ R2, R2 = U2 * 4294967296 + u0 - p1 * Y := ⟨_, rfl⟩
        have eR2 : IntKind.u64.wrap (IntKind.u64.wrap (IntKind.u64.wrap (U2 * 4294967296) + u0) - IntKind.u64.wrap (p1 * Y)) = R2 := by rw [hR2]; exact unwrap3 HF2.out hy3
        have HR2 := Lib.hid hR2
        clear hR2
        have hR20 : 0 <= R2 := by have := HF2.out.lo; have := HR2.out; omega
        go_wp2
        go_ret2
        have hfin := Dg.knuth_done HPP.out eY (hi := hi) (lo := lo) (U := U) (u1 := u1) (u0 := u0) (by have := HULX.out; have := HF0.out; omega) HF.out (by have := HF2.out; rw [HU2.out] at this; exact this)
        rw [<- HU2.out, <- HR2.out] at hfin
        refine ⟨_, R2 / 2 ^ s, rfl, Below.refl _ _, ?_, ?_, ?_, ?_, ?_⟩
        ·rw [hfin.1]; omega
        ·rw [hfin.1]; exact hfin.2.1
        ·rw [hfin.1]; exact hfin.2.2
        ·omega
        ·omega
      ·have F2 := Dg.KN.stop HD2.out K.out (by omega) (by omega)
       obtain ⟨p1, rfl⟩ : ∃ q1, q1 = q := ⟨_, rfl⟩
       have HF2 := Lib.hid (show Dg.KF U2 u0 Y p1 from F2)
       have hp1a := F2.q0
       have hp1b := F2.q1
       clear F2
       obtain ⟨R2, hR2⟩ : ∃ R2, R2 = U2 * 4294967296 + u0 - p1 * Y := ⟨_, rfl⟩
       have eR2 : IntKind.u64.wrap (IntKind.u64.wrap (IntKind.u64.wrap (U2 * 4294967296) + u0) - IntKind.u64.wrap (p1 * Y)) = R2 := by rw [hR2]; exact unwrap3 HF2.out hy3
       have HR2 := Lib.hid hR2
       clear hR2
       have hR20 : 0 <= R2 := by have := HF2.out.lo; have := HR2.out; omega
       go_wp2
       go_ret2
       have hfin := Dg.knuth_done HPP.out eY (hi := hi) (lo := lo) (U := U) (u1 := u1) (u0 := u0) (by have := HULX.out; have := HF0.out; omega) HF.out (by have := HF2.out; rw [HU2.out] at this; exact this)
       rw [<- HU2.out, <- HR2.out] at hfin
       refine ⟨_, R2 / 2 ^ s, rfl, Below.refl _ _, ?_, ?_, ?_, ?_, ?_⟩
       ·rw [hfin.1]; omega
       ·rw [hfin.1]; exact hfin.2.1
       ·rw [hfin.1]; exact hfin.2.2
       ·omega
       ·omega
  ·have b6 : q * d0 <= 4294967295 * 4294967295 := Int.mul_le_mul (by omega) (by omega) hd0a (by omega)
   by_cases hB : 4294967296 * r + u1 < q * d0
   ·by_cases hr : r + d1 < 4294967296
    ·have K1 := Lib.hid (Dg.KN.less HD.out K.out (Or.inr ⟨by omega, hB⟩) hr)
     have hq1 : 1 <= q := (Dg.KN.step HD.out K.out (Or.inr ⟨by omega, hB⟩)).1
     go_wp2
     go_round
     case rel => exact ⟨_, _, rfl, rfl, K1.out⟩
     case measure => simp [intOf]; omega
    ·have F := Dg.KN.over HD.out K.out (Or.inr ⟨by omega, hB⟩) (by omega)
     have hq1 : 1 <= q := (Dg.KN.step HD.out K.out (Or.inr ⟨by omega, hB⟩)).1
     obtain ⟨q1, eq1⟩ : ∃ q1, q - 1 = q1 := ⟨_, rfl⟩
     rw [eq1] at F
     have HF := Lib.hid F
     have hq1a := F.q0
     have hq1b := F.q1
     clear F
     obtain ⟨U2, hU2⟩ : ∃ U2, U2 = U * 4294967296 + u1 - q1 * Y := ⟨_, rfl⟩
     have eU2 : IntKind.u64.wrap (IntKind.u64.wrap (IntKind.u64.wrap (U * 4294967296) + u1) - IntKind.u64.wrap (q1 * Y)) = U2 := by rw [hU2]; exact unwrap3 HF.out hy3
     have D2 : Dg.KD U2 u0 Y d1 d0 := by rw [hU2]; exact next_kd HF.out HD.out (by have := HF0.out; omega) (by have := HF0.out; omega)
     have HU2 := Lib.hid hU2
     clear hU2
     have hU20 := D2.U0
     have hU21 := D2.U1
     have hu0a := D2.u0
     have hu0b := D2.u1
     have HD2 := Lib.hid D2
     have K02 := Dg.KN.start D2
     have hqa2 : 0 <= U2 / d1 * d1 := Int.mul_nonneg (Int.ediv_nonneg hU20 (by omega)) (by omega)
     have hqb2 : U2 / d1 * d1 <= U2 := Int.ediv_mul_le U2 (by omega)
     have hqc2 := K02.q1
     have hqd2 := K02.q0
     clear D2
     obtain ⟨r2, er2⟩ : ∃ r2, U2 - U2 / d1 * d1 = r2 := ⟨_, rfl⟩
     rw [er2] at K02
     have HK02 := Lib.hid K02
     clear K02
     go_wp2
     go_loop [18, 16] (fun a b => ∃ q r, a = .int .u64 q /\ b = .int .u64 r /\ Hid (Dg.KN U2 u0 Y d1 d0 q r)) (fun a _ => (intOf a).toNat)
     case atStart => exact ⟨_, _, rfl, rfl, HK02.out⟩
     case round =>
      clear K b1 b2 b3 b4 b5
      obtain ⟨q, r, rfl, rfl, K⟩ := hrel
      have b1 := K.out.q0
      have b2 := K.out.q1
      have b3 := K.out.r0
      have b4 := K.out.r1
      have b5 : 0 <= q * d0 := Int.mul_nonneg b1 hd0a
      by_cases hA : 4294967296 <= q
      ·by_cases hr : r + d1 < 4294967296
       ·have K1 := Lib.hid (Dg.KN.less HD2.out K.out (Or.inl hA) hr)
        go_wp2
        go_round
        case rel => exact ⟨_, _, rfl, rfl, K1.out⟩
        case measure => simp [intOf]; omega
       ·have F2 := Dg.KN.over HD2.out K.out (Or.inl hA) (by omega)
        obtain ⟨p1, ep1⟩ : ∃ q1, q - 1 = q1 := ⟨_, rfl⟩
        rw [ep1] at F2
        have HF2 := Lib.hid (show Dg.KF U2 u0 Y p1 from F2)
        have hp1a := F2.q0
        have hp1b := F2.q1
        clear F2
        obtain ⟨R2, hR2⟩ : ∃ R2, R2 = U2 * 4294967296 + u0 - p1 * Y := ⟨_, rfl⟩
        have eR2 : IntKind.u64.wrap (IntKind.u64.wrap (IntKind.u64.wrap (U2 * 4294967296) + u0) - IntKind.u64.wrap (p1 * Y)) = R2 := by rw [hR2]; exact unwrap3 HF2.out hy3
        have HR2 := Lib.hid hR2
        clear hR2
        have hR20 : 0 <= R2 := by have := HF2.out.lo; have := HR2.out; omega
        go_wp2
        go_ret2
        have hfin := Dg.knuth_done HPP.out eY (hi := hi) (lo := lo) (U := U) (u1 := u1) (u0 := u0) (by have := HULX.out; have := HF0.out; omega) HF.out (by have := HF2.out; rw [HU2.out] at this; exact this)
        rw [<- HU2.out, <- HR2.out] at hfin
        refine ⟨_, R2 / 2 ^ s, rfl, Below.refl _ _, ?_, ?_, ?_, ?_, ?_⟩
        ·rw [hfin.1]; omega
        ·rw [hfin.1]; exact hfin.2.1
        ·rw [hfin.1]; exact hfin.2.2
        ·omega
        ·omega
      ·have b6 : q * d0 <= 4294967295 * 4294967295 := Int.mul_le_mul (by omega) (by omega) hd0a (by omega)
       by_cases hB : 4294967296 * r + u0 < q * d0
       ·by_cases hr : r + d1 < 4294967296
        ·have K1 := Lib.hid (Dg.KN.less HD2.out K.out (Or.inr ⟨by omega, hB⟩) hr)
         have hq1 : 1 <= q := (Dg.KN.step HD2.out K.out (Or.inr ⟨by omega, hB⟩)).1
         go_wp2
         go_round
         case rel => exact ⟨_, _, rfl, rfl, K1.out⟩
         case measure => simp [intOf]; omega
        ·have F2 := Dg.KN.over HD2.out K.out (Or.inr ⟨by omega, hB⟩) (by omega)
         have hq1 : 1 <= q := (Dg.KN.step HD2.out K.out (Or.inr ⟨by omega, hB⟩)).1
         obtain ⟨p1, ep1⟩ : ∃ q1, q - 1 = q1 := ⟨_, rfl⟩
         rw [ep1] at F2
         have HF2 := Lib.hid (show Dg.KF U2 u0 Y p1 from F2)
         have hp1a := F2.q0
         have hp1b := F2.q1
         clear F2
         obtain ⟨R2, hR2⟩ : ∃ R2, R2 = U2 * 4294967296 + u0 - p1 * Y := ⟨_, rfl⟩
         have eR2 : IntKind.u64.wrap (IntKind.u64.wrap (IntKind.u64.wrap (U2 * 4294967296) + u0) - IntKind.u64.wrap (p1 * Y)) = R2 := by rw [hR2]; exact unwrap3 HF2.out hy3
         have HR2 := Lib.hid hR2
         clear hR2
         have hR20 : 0 <= R2 := by have := HF2.out.lo; have := HR2.out; omega
         go_wp2
         go_ret2
         have hfin := Dg.knuth_done HPP.out eY (hi := hi) (lo := lo) (U := U) (u1 := u1) (u0 := u0) (by have := HULX.out; have := HF0.out; omega) HF.out (by have := HF2.out; rw [HU2.out] at this; exact this)
         rw [<- HU2.out, <- HR2.out] at hfin
         refine ⟨_, R2 / 2 ^ s, rfl, Below.refl _ _, ?_, ?_, ?_, ?_, ?_⟩
         ·rw [hfin.1]; omega
         ·rw [hfin.1]; exact hfin.2.1
         ·rw [hfin.1]; exact hfin.2.2
         ·omega
         ·omega
       ·have F2 := Dg.KN.stop HD2.out K.out (by omega) (by omega)
        obtain ⟨p1, rfl⟩ : ∃ q1, q1 = q := ⟨_, rfl⟩
        have HF2 := Lib.hid (show Dg.KF U2 u0 Y p1 from F2)
        have hp1a := F2.q0
        have hp1b := F2.q1
        clear F2
        obtain ⟨R2, hR2⟩ : ∃ R2, R2 = U2 * 4294967296 + u0 - p1 * Y := ⟨_, rfl⟩
        have eR2 : IntKind.u64.wrap (IntKind.u64.wrap (IntKind.u64.wrap (U2 * 4294967296) + u0) - IntKind.u64.wrap (p1 * Y)) = R2 := by rw [hR2]; exact unwrap3 HF2.out hy3
        have HR2 := Lib.hid hR2
        clear hR2
        have hR20 : 0 <= R2 := by have := HF2.out.lo; have := HR2.out; omega
        go_wp2
        go_ret2
        have hfin := Dg.knuth_done HPP.out eY (hi := hi) (lo := lo) (U := U) (u1 := u1) (u0 := u0) (by have := HULX.out; have := HF0.out; omega) HF.out (by have := HF2.out; rw [HU2.out] at this; exact this)
        rw [<- HU2.out, <- HR2.out] at hfin
        refine ⟨_, R2 / 2 ^ s, rfl, Below.refl _ _, ?_, ?_, ?_, ?_, ?_⟩
        ·rw [hfin.1]; omega
        ·rw [hfin.1]; exact hfin.2.1
        ·rw [hfin.1]; exact hfin.2.2
        ·omega
        ·omega
   ·have F := Dg.KN.stop HD.out K.out (by omega) (by omega)
    obtain ⟨q1, rfl⟩ : ∃ q1, q1 = q := ⟨_, rfl⟩
    have HF := Lib.hid F
    have hq1a := F.q0
    have hq1b := F.q1
    clear F
    obtain ⟨U2, hU2⟩ : ∃ U2, U2 = U * 4294967296 + u1 - q1 * Y := ⟨_, rfl⟩
    have eU2 : IntKind.u64.wrap (IntKind.u64.wrap (IntKind.u64.wrap (U * 4294967296) + u1) - IntKind.u64.wrap (q1 * Y)) = U2 := by rw [hU2]; exact unwrap3 HF.out hy3
    have D2 : Dg.KD U2 u0 Y d1 d0 := by rw [hU2]; exact next_kd HF.out HD.out (by have := HF0.out; omega) (by have := HF0.out; omega)
    have HU2 := Lib.hid hU2
    clear hU2
    have hU20 := D2.U0
    have hU21 := D2.U1
    have hu0a := D2.u0
    have hu0b := D2.u1
    have HD2 := Lib.hid D2
    have K02 := Dg.KN.start D2
    have hqa2 : 0 <= U2 / d1 * d1 := Int.mul_nonneg (Int.ediv_nonneg hU20 (by omega)) (by omega)
    have hqb2 : U2 / d1 * d1 <= U2 := Int.ediv_mul_le U2 (by omega)
    have hqc2 := K02.q1
    have hqd2 := K02.q0
    clear D2
    obtain ⟨r2, er2⟩ : ∃ r2, U2 - U2 / d1 * d1 = r2 := ⟨_, rfl⟩
    rw [er2] at K02
    have HK02 := Lib.hid K02
    clear K02
    go_wp2
    go_loop [18, 16] (fun a b => ∃ q r, a = .int .u64 q /\ b = .int .u64 r /\ Hid (Dg.KN U2 u0 Y d1 d0 q r)) (fun a _ => (intOf a).toNat)
    case atStart => exact ⟨_, _, rfl, rfl, HK02.out⟩
    case round =>
     clear K b1 b2 b3 b4 b5
     obtain ⟨q, r, rfl, rfl, K⟩ := hrel
     have b1 := K.out.q0
     have b2 := K.out.q1
     have b3 := K.out.r0
     have b4 := K.out.r1
     have b5 : 0 <= q * d0 := Int.mul_nonneg b1 hd0a
     by_cases hA : 4294967296 <= q
     ·by_cases hr : r + d1 < 4294967296
      ·have K1 := Lib.hid (Dg.KN.less HD2.out K.out (Or.inl hA) hr)
       go_wp2
       go_round
       case rel => exact ⟨_, _, rfl, rfl, K1.out⟩
       case measure => simp [intOf]; omega
      ·have F2 := Dg.KN.over HD2.out K.out (Or.inl hA) (by omega)
       obtain ⟨p1, ep1⟩ : ∃ q1, q - 1 = q1 := ⟨_, rfl⟩
       rw [ep1] at F2
       have HF2 := Lib.hid (show Dg.KF U2 u0 Y p1 from F2)
       have hp1a := F2.q0
       have hp1b := F2.q1
       clear F2
       obtain ⟨R2, hR2⟩ : ∃ R2, R2 = U2 * 4294967296 + u0 - p1 * Y := ⟨_, rfl⟩
       have eR2 : IntKind.u64.wrap (IntKind.u64.wrap (IntKind.u64.wrap (U2 * 4294967296) + u0) - IntKind.u64.wrap (p1 * Y)) = R2 := by rw [hR2]; exact unwrap3 HF2.out hy3
       have HR2 := Lib.hid hR2
       clear hR2
       have hR20 : 0 <= R2 := by have := HF2.out.lo; have := HR2.out; omega
       go_wp2
       go_ret2
       have hfin := Dg.knuth_done HPP.out eY (hi := hi) (lo := lo) (U := U) (u1 := u1) (u0 := u0) (by have := HULX.out; have := HF0.out; omega) HF.out (by have := HF2.out; rw [HU2.out] at this; exact this)
       rw [<- HU2.out, <- HR2.out] at hfin
       refine ⟨_, R2 / 2 ^ s, rfl, Below.refl _ _, ?_, ?_, ?_, ?_, ?_⟩
       ·rw [hfin.1]; omega
       ·rw [hfin.1]; exact hfin.2.1
       ·rw [hfin.1]; exact hfin.2.2
       ·omega
       ·omega
     ·have b6 : q * d0 <= 4294967295 * 4294967295 := Int.mul_le_mul (by omega) (by omega) hd0a (by omega)
      by_cases hB : 4294967296 * r + u0 < q * d0
      ·by_cases hr : r + d1 < 4294967296
       ·have K1 := Lib.hid (Dg.KN.less HD2.out K.out (Or.inr ⟨by omega, hB⟩) hr)
        have hq1 : 1 <= q := (Dg.KN.step HD2.out K.out (Or.inr ⟨by omega, hB⟩)).1
        go_wp2
        go_round
        case rel => exact ⟨_, _, rfl, rfl, K1.out⟩
        case measure => simp [intOf]; omega
       ·have F2 := Dg.KN.over HD2.out K.out (Or.inr ⟨by omega, hB⟩) (by omega)
        have hq1 : 1 <= q := (Dg.KN.step HD2.out K.out (Or.inr ⟨by omega, hB⟩)).1
        obtain ⟨p1, ep1⟩ : ∃ q1, q - 1 = q1 := ⟨_, rfl⟩
        rw [ep1] at F2
        have HF2 := Lib.hid (show Dg.KF U2 u0 Y p1 from F2)
        have hp1a := F2.q0
        have hp1b := F2.q1
        clear F2
        obtain ⟨R2, hR2⟩ : ∃ R2, R2 = U2 * 4294967296 + u0 - p1 * Y := ⟨_, rfl⟩
        have eR2 : IntKind.u64.wrap (IntKind.u64.wrap (IntKind.u64.wrap (U2 * 4294967296) + u0) - IntKind.u64.wrap (p1 * Y)) = R2 := by rw [hR2]; exact unwrap3 HF2.out hy3
        have HR2 := Lib.hid hR2
        clear hR2
        have hR20 : 0 <= R2 := by have := HF2.out.lo; have := HR2.out; omega
        go_wp2
        go_ret2
        have hfin := Dg.knuth_done HPP.out eY (hi := hi) (lo := lo) (U := U) (u1 := u1) (u0 := u0) (by have := HULX.out; have := HF0.out; omega) HF.out (by have := HF2.out; rw [HU2.out] at this; exact this)
        rw [<- HU2.out, <- HR2.out] at hfin
        refine ⟨_, R2 / 2 ^ s, rfl, Below.refl _ _, ?_, ?_, ?_, ?_, ?_⟩
        ·rw [hfin.1]; omega
        ·rw [hfin.1]; exact hfin.2.1
        ·rw [hfin.1]; exact hfin.2.2
        ·omega
        ·omega
      ·have F2 := Dg.KN.stop HD2.out K.out (by omega) (by omega)
       obtain ⟨p1, rfl⟩ : ∃ q1, q1 = q := ⟨_, rfl⟩
       have HF2 := Lib.hid (show Dg.KF U2 u0 Y p1 from F2)
       have hp1a := F2.q0
       have hp1b := F2.q1
       clear F2
       obtain ⟨R2, hR2⟩ : ∃ R2, R2 = U2 * 4294967296 + u0 - p1 * Y := ⟨_, rfl⟩
       have eR2 : IntKind.u64.wrap (IntKind.u64.wrap (IntKind.u64.wrap (U2 * 4294967296) + u0) - IntKind.u64.wrap (p1 * Y)) = R2 := by rw [hR2]; exact unwrap3 HF2.out hy3
       have HR2 := Lib.hid hR2
       clear hR2
       have hR20 : 0 <= R2 := by have := HF2.out.lo; have := HR2.out; omega
       go_wp2
       go_ret2
       have hfin := Dg.knuth_done HPP.out eY (hi := hi) (lo := lo) (U := U) (u1 := u1) (u0 := u0) (by have := HULX.out; have := HF0.out; omega) HF.out (by have := HF2.out; rw [HU2.out] at this; exact this)
       rw [<- HU2.out, <- HR2.out] at hfin
       refine ⟨_, R2 / 2 ^ s, rfl, Below.refl _ _, ?_, ?_, ?_, ?_, ?_⟩
       ·rw [hfin.1]; omega
       ·rw [hfin.1]; exact hfin.2.1
       ·rw [hfin.1]; exact hfin.2.2
       ·omega
       ·omega
theorem belowN (w : World) (n : Nat) : Below w.heap.size w (w.drewN n) := ⟨rfl, rfl, rfl, Nat.le_refl _, fun _ _ => rfl⟩
theorem div64_any (hi lo y : Int) (w : World) (hh : 0 <= hi) (hy : hi < y) (hy1 : y < 18446744073709551616) (hl : 0 <= lo) (hl1 : lo < 18446744073709551616) :
 Calls Tryz.prog 254 #[.int .u64 hi, .int .u64 lo, .int .u64 y] w (DvRet hi lo y w) := by
 by_cases h0 : 0 < hi
 ·exact div64_big hi lo y w h0 hy hy1 hl hl1
 ·obtain rfl : hi = 0 := by omega
  have t1 : (y == 0) = false := by simp; omega
  have hd0 := Int.ediv_nonneg hl (show 0 <= y by omega)
  have hd1 := Int.mul_ediv_add_emod lo y
  have hd2 := Int.emod_nonneg lo (show y ≠ 0 by omega)
  have hd3 := Int.emod_lt_of_pos lo (show 0 < y by omega)
  have hd4 := Int.ediv_le_self y hl
  have HD := Lib.hid hd1
  clear hd1
  go_enter Tryz.func254, Tryz.ntmps254
  go_wp2
  go_quiet (fail)
  go_wp2
  go_ret2
  exact ⟨lo / y, lo % y, rfl, belowN _ _, by have := HD.out; rw [Int.mul_comm] at this; omega, hd2, hd3, hd0, by omega⟩
def DwRet (L : Nat) (w : World) (m y : Int) (e : Ending) (w' : World) : Prop := ∃ v' r, e = .returned (.tuple #[v', .int .u64 r]) /\ Below w.heap.size w w' /\ Num L w' v' (m / y) /\ r = m % y /\ Frm w.heap.size v'
def DwAt (xs T : List Int) (k : Nat) (r y : Int) : Prop := T.length = xs.length /\ Dg.Wf BW T /\ 0 <= r /\ r < y /\ Dg.val BW (T.drop k) * y + r = Dg.val BW (xs.drop k)
theorem DwAt.start (xs : List Int) {y : Int} (hy : 0 < y) : DwAt xs (List.replicate xs.length 0) xs.length 0 y :=
 ⟨by simp, Dg.Wf.zeros (by decide) _, by omega, hy, by simp [Dg.val]⟩
theorem DwAt.next {xs T : List Int} {k : Nat} {r y x q r' : Int} (h : DwAt xs T (k + 1) r y) (hk : k < xs.length) (hx : x = xs[k]?.getD 0)
 (he : r * 18446744073709551616 + x = q * y + r') (r0 : 0 <= r') (r1 : r' < y) (q0 : 0 <= q) (q1 : q < 18446744073709551616) : DwAt xs (T.set k q) k r' y := by
 obtain ⟨hl, hw, _, _, hv⟩ := h
 refine ⟨by simpa using hl, hw.set k q0 q1, r0, r1, ?_⟩
 have e1 : (T.set k q).drop k = q :: T.drop (k + 1) := by
  rw [List.drop_eq_getElem_cons (by simp; omega)]
  simp [List.drop_set]
 have e2 : xs.drop k = x :: xs.drop (k + 1) := by
  rw [List.drop_eq_getElem_cons hk, hx]
  simp [hk]
 rw [e1, e2, Dg.val_cons, Dg.val_cons, <- hv]
 generalize Dg.val BW (T.drop (k + 1)) = t
 unfold BW
 rw [Int.add_mul, Int.mul_add, Int.mul_assoc]
 omega
theorem DwAt.done {xs T : List Int} {r y : Int} (h : DwAt xs T 0 r y) : Dg.Wf BW T /\ Dg.val BW T = Dg.val BW xs / y /\ r = Dg.val BW xs % y := by
 obtain ⟨hl, hw, r0, r1, hv⟩ := h
 simp only [List.drop_zero] at hv
 refine ⟨hw, ?_, ?_⟩
 ·rw [<- hv, Int.add_comm, Int.add_mul_ediv_right _ _ (by omega), Int.ediv_eq_zero_of_lt r0 r1]; omega
 ·rw [<- hv, Int.add_comm, Int.add_mul_emod_self_right, Int.emod_eq_of_lt r0 r1]
theorem divideByWord_any (va : Value) (xs : List Int) (y : Int) (w : World) (ha : Sl .u64 w va xs) (hwa : Dg.Wf BW xs) (hy : 0 < y) (hy1 : y < 18446744073709551616) (hmx : xs.length <= 17000000000000) :
 Calls Tryz.prog 227 #[va, .int .u64 y] w (DwRet xs.length w (Dg.val BW xs) y) := by
 obtain ⟨ao, cap, rfl, hcap, hmax, hc⟩ := ha
 unfold maxLen at hmax
 go_enter Tryz.func227, Tryz.ntmps227
 go_wp2_with (at_make; refine wpList_make_zeros _ rfl _ _ 96 rfl 165 .u64 Tryz.underlying96 info_u64 _ _ xs.length rfl rfl (by omega) (by omega) (by omega) ?_)
 intro w1 hrow hbel
 go_wp2
 go_loopw [5, 6] (fun c i wr => ∃ (k : Nat) (j r : Int) (T : List Int), k <= xs.length /\ Hid (j + 1 = k) /\ i = .int .i64 j /\ c = .int .u64 r /\ Hid (DwAt xs T k r y) /\ Row 165 .u64 wr w.heap.size T /\ Below w.heap.size w wr) (fun _ i _ => (intOf i + 1).toNat)
 case atStart => exact ⟨xs.length, _, 0, _, Nat.le_refl _, by show _ - (1 : Int) + 1 = _; omega, rfl, rfl, DwAt.start xs hy, hrow, hbel⟩
 case round =>
  obtain ⟨k, j, r, T, hk, hj, rfl, rfl, hat, hr, hbl⟩ := hrel
  clear hrow hbel
  have hr0 : 0 <= r := hat.out.2.2.1
  have hr1 : r < y := hat.out.2.2.2.1
  have HTL := Lib.hid hat.out.1
  by_cases h0 : 0 < k
  ·obtain ⟨k, rfl⟩ : ∃ j, k = j+1 := ⟨k - 1, by omega⟩
   obtain rfl : j = (k : Int) := by have := hj.out; omega
   clear hj
   obtain ⟨b, o, rfl, hbs, hcell⟩ := hc k (by omega)
   obtain ⟨x, hx⟩ : ∃ x, x = xs[k]?.getD 0 := ⟨_, rfl⟩
   have hxb := wfD hwa k
   rw [<- hx] at hcell hxb
   have HX := Lib.hid hx
   have hcl := (hbl.cell (p := ⟨b, o + k, none⟩) hbs).trans hcell
   have hcz := hr.cell (i := k) (by have := HTL.out; omega)
   have hfz := hr.free k
   have hki : k < xs.length := by omega
   clear hx hcell hc
   go_wp2_with fail
   refine (div64_any r x y _ hr0 hr1 hy1 hxb.1 hxb.2).mono ?_
   rintro e w2 ⟨q, r', rfl, hb2, hv, k0, k1, q0, q1⟩
   have hr2 := hr.below hb2
   have hbl2 := hbl.trans (hb2.mono hbl.size)
   have hcz2 := hr2.cell (i := k) (by have := HTL.out; omega)
   have hfz2 := hr2.free k
   have HV := Lib.hid hv
   clear hv hcz hfz
   go_wp2
   go_roundw
   case rel => exact ⟨k, (k : Int) - 1, r', T.set k q, by omega, by show _ - (1 : Int) + 1 = _; omega, by first | rfl | go_num, rfl, hat.out.next hki HX.out HV.out k0 k1 q0 q1, hr2.set k q, hbl2.setCell (Nat.le_refl _) _⟩
   case measure => simp [intOf] <;> omega
  ·obtain rfl : k = 0 := by omega
   obtain rfl : j = -1 := by have := hj.out; omega
   obtain ⟨hdw, hdv, hdr⟩ := hat.out.done
   have hSl := hr.slAll (n := xs.length) (cap := xs.length) HTL.out.symm (Nat.le_refl _) (by unfold maxLen; omega)
   have HV := Lib.hid hdv
   have HR := Lib.hid hdr
   clear hdv hdr hj hat
   go_wp2_with (go_at_call 196; refine (cut_num hSl hdw).mono ?_; rintro e w' ⟨v', rfl, rfl, hn, hob⟩; have HOB := Lib.hid hob; clear hob)
   go_ret2
   rw [HV.out, HTL.out] at hn
   exact ⟨_, _, rfl, hbl, hn, HR.out, (Frm.mk (Nat.le_refl _)).of HOB.out⟩
theorem divideByWord_num {L : Nat} {va : Value} {m y : Int} {w : World} (ha : Num L w va m) (hy : 0 < y) (hy1 : y < 18446744073709551616) (hL : L <= 17000000000000) :
 Calls Tryz.prog 227 #[va, .int .u64 y] w (DwRet L w m y) := by
 obtain ⟨xs, a1, a2, a3, rfl, a5⟩ := ha
 exact (divideByWord_any va xs y w a1 a2 hy hy1 (by omega)).mono fun e w' ⟨v', r, h1, h2, h3, h4⟩ => ⟨v', r, h1, h2, h3.mono a5, h4⟩
theorem oneWord_any (x : Int) (w : World) (h0 : 0 <= x) (h1 : x < 18446744073709551616) :
 Calls Tryz.prog 135 #[.int .u64 x] w (RetNum 1 w x) := by
 have hS : Sl .u64 (w.alloc (.cells #[.int .u64 x] 165)) (.slice (some ⟨w.heap.size, 0, none⟩) 1 1) [x] := (Row.new (E := 165) (K := .u64) w [x]).slAll rfl (Nat.le_refl _) (by unfold maxLen; omega)
 have hb : Below w.heap.size w (w.alloc (.cells #[.int .u64 x] 165)) := (Below.refl _ _).alloc (Nat.le_refl _) _
 have hw : Dg.Wf BW [x] := Dg.Wf.one h0 h1
 go_enter Tryz.func135, Tryz.ntmps135
 go_wp2_with (go_at_call 196; refine (cut_num hS hw).mono ?_; rintro e w' ⟨v', rfl, rfl, hn, hob⟩; have HOB := Lib.hid hob; clear hob)
 go_ret
 rw [Dg.val_one] at hn
 exact ⟨hb, _, rfl, hn, (Frm.mk (Nat.le_refl _)).of HOB.out⟩
theorem Sl.of_owns {E : TypeId} {K : IntKind} {w : World} {B : Nat} {v : Value} {n : Nat} {xs : List Int} (h : w.ownsRow B E 1 v n (xs.map (Value.int K))) : Sl K w v xs := by
 have hl : xs.length = n := by simpa using h.1
 rcases h.2 with ⟨rfl, h0⟩ | ⟨g, cap, cur, rfl, hg, hh, hn, hm, hc, ht⟩
 ·have : xs = [] := by cases xs with | nil => rfl | cons => simp at hl; omega
  subst this
  exact Sl.nil _ _
 ·refine ⟨_, cap, by rw [hl], by omega, hm, fun i hi => ⟨g, 0, rfl, (Array.getElem?_eq_some_iff.1 hh).1, ?_⟩⟩
  have := h.cellAt i (by omega)
  rw [Nat.zero_add, this]
  simp [hi]
theorem Sl.newsT {K : IntKind} {w : World} {ad : Addr} {n cap : Nat} {xs : List Int} (h : Sl K w (.slice (some ad) n cap) xs) : ∀ j u, (xs.map (Value.int K))[j]? = some u -> w.cell? (ad.add j) = some u := by
 obtain ⟨ao, c, e, hc, hm, hx⟩ := h
 intro j u hj
 have hjl : j < xs.length := by
  apply Classical.byContradiction
  intro hc'
  simp [hc'] at hj
 obtain ⟨b, o, e2, hb, hcell⟩ := hx j hjl
 simp only [Value.slice.injEq] at e
 obtain ⟨rfl, _, _⟩ := e
 simp only [Option.some.injEq] at e2
 subst e2
 have : (⟨b, o, none⟩ : Addr).add j = ⟨b, o + j, none⟩ := by simp [Addr.add]
 rw [this, hcell]
 simp [hjl] at hj ⊢
 exact hj
theorem tclone_any {v : Value} {xs : List Int} {w : World} (h : Sl .u64 w v xs) (hmx : xs.length <= 17000000000000) :
 Calls Tryz.prog 255 #[v] w (RetSl .u64 w xs) := by
 have h' := h
 obtain ⟨ao, cap, rfl, hcap, hmax, hc⟩ := h
 have hnil := fun wx : World => Lib.run_eql_slice_nil (P := Tryz.prog) wx 96 165 ao xs.length cap 0 0 Tryz.underlying96
 rcases ao with _ | ad
 ·have hx : xs = [] := by
   cases xs with
   | nil => rfl
   | cons x xs => obtain ⟨b, o, e, _⟩ := hc 0 (by simp); cases e
  subst hx
  simp only [Option.isNone_none, List.length_nil] at hnil ⊢
  clear hc hmax h' hmx hcap
  go_enter Tryz.func255, Tryz.ntmps255
  go_wp2
  go_ret
  exact ⟨Below.refl _ _, _, rfl, Sl.nil _ _, Frm.nil _⟩
 ·simp only [Option.isNone_some] at hnil
  obtain ⟨i0, hi, hz0, hz1, hz2⟩ := info_parts info_u64
  have hown := World.ownsRow_lit (base := w.heap.size) (e := 165) (size := 1) w #[] 0 (Nat.le_refl _) (Nat.zero_le _) (by rfl)
  have hb : Below w.heap.size w (w.alloc (.cells #[] 165)) := (Below.refl _ _).alloc (Nat.le_refl _) _
  have hn := (h'.below hb).newsT
  have HO := Lib.hid hown
  have HN := Lib.hid hn
  have hone : ∀ u ∈ xs.map (Value.int .u64), u.oneCell' = true := by
   intro u hu
   obtain ⟨a, _, rfl⟩ := List.mem_map.1 hu
   rfl
  have hlen : (xs.map (Value.int .u64)).length = xs.length * 1 := by simp
  have hm1 : 0 + xs.length <= maxLen := by unfold maxLen; omega
  have hm2 : (0 + xs.length) * 8 <= 140737488355328 := by omega
  have hb0 : w.heap.size <= (w.alloc (.cells #[] 165)).heap.size := by simp
  have HB0 := Lib.hid hb0
  have HONE := Lib.hid hone
  have HLEN := Lib.hid hlen
  have HM1 := Lib.hid hm1
  have HM2 := Lib.hid hm2
  clear hn hown hc hmax h' hone hlen hm1 hm2 hb0
  go_enter Tryz.func255, Tryz.ntmps255
  go_wp2_with (at_builtin; refine wpList_append_own _ rfl _ _ 96 rfl w.heap.size 165 i0 (.int .u64 0) 1 8 Tryz.underlying96 hi hz0 hz1 hz2 rfl (by decide) _ _ _ rfl HO.out ad xs.length cap (xs.map (Value.int .u64)) rfl HLEN.out HN.out HONE.out HM1.out HM2.out HB0.out ?_)
  intro v' w1 hown1 hgrow hiff
  have HO1 := Lib.hid hown1
  have hb2 := hb.grown hgrow (by simp) (fun k hk => (HO.out.lt k hk).1)
  clear hiff hown1 hgrow hb HO HN hi hz0 hz1 hz2 hnil
  go_wp2
  go_ret
  exact ⟨hb2, _, rfl, Sl.of_owns (by simpa using HO1.out), fun k hk => (HO1.out.lt k hk).1⟩
theorem tcopied_any {L : Nat} {v : Value} {m : Int} {w : World} (h : Num L w v m) (hL : L <= 17000000000000) :
 Calls Tryz.prog 231 #[v] w (RetNum L w m) := by
 obtain ⟨xs, a1, a2, a3, rfl, a5⟩ := h
 go_enter Tryz.func231, Tryz.ntmps231
 go_wp2_with fail
 refine (tclone_any a1 (by omega)).mono ?_
 rintro e w1 ⟨hb, v1, rfl, hs, hf⟩
 have HF := Lib.hid hf
 clear hf
 go_wp2_with fail
 refine (cut_num hs a2).mono ?_
 rintro e w2 ⟨v2, rfl, rfl, hn, hob⟩
 have HOB := Lib.hid hob
 clear hob
 go_wp2
 go_ret
 exact ⟨hb, _, rfl, hn.mono a5, Frm.of HF.out HOB.out⟩
def ScAt (xs ys : List Int) (f s : Int) (k : Nat) (c : Int) : Prop := ys.length = xs.length /\ Dg.Wf BW ys /\ 0 <= c /\ c < 18446744073709551616 /\
 Dg.val BW (ys.take k) + c * BW ^ k = Dg.val BW (xs.take k) * f + s /\ ∀ i, k <= i -> ys[i]?.getD 0 = xs[i]?.getD 0
def ScRet (B : Nat) (w : World) (v : Value) (xs : List Int) (n : Int) (e : Ending) (w' : World) : Prop :=
 ∃ v' ys, e = .returned v' /\ Mine 165 .u64 B w' v' ys /\ Dg.Wf BW ys /\ Dg.val BW ys = n /\ ys.length <= xs.length + 1 /\ w.grownBy w' v.ownBlock
end Go.Proofs.YtdnheaafcbihbaaGreat
namespace Go.Proofs.YtdnheaafcbihbaaGreat.Dg
def AllDig (l : List UInt8) : Prop := ∀ c ∈ l, 48 <= c.toNat /\ c.toNat <= 57
def isNum (l : List UInt8) : Bool := !l.isEmpty && l.all fun c => decide (48 <= c.toNat) && decide (c.toNat <= 57)
def valD (l : List UInt8) : Nat := l.foldl (fun a c => a * 10 + (c.toNat - 48)) 0
def decF : Nat -> Nat -> List UInt8
 | 0, _ => []
 | f + 1, n => if n = 0 then [] else decF f (n / 10) ++ [UInt8.ofNat (48 + n % 10)]
def decN (n : Nat) : List UInt8 := if n = 0 then [48] else decF n n
def decZ (z : Int) : List UInt8 := if z < 0 then 45 :: decN z.natAbs else decN z.natAbs
def okDig (l : List UInt8) : Prop := l ≠ [] /\ AllDig l /\ (l = [48] \/ ∀ c t, l = c :: t -> c.toNat ≠ 48)
def Canon (s : List UInt8) (neg : Bool) (d : List UInt8) : Prop := okDig d /\ ((neg = false /\ s = d) \/ (neg = true /\ s = 45 :: d /\ d ≠ [48]))
def ofSign (neg : Bool) (n : Nat) : Int := if neg then -(n : Int) else n
def Cutsign (s : List UInt8) (neg : Bool) (D : List UInt8) : Prop := (neg = true /\ s = 45 :: D) \/ (neg = false /\ s = D /\ ∀ t, s ≠ 45 :: t)
end Go.Proofs.YtdnheaafcbihbaaGreat.Dg
namespace Go.Proofs.YtdnheaafcbihbaaGreat
open Go Go.RowKit
def str (l : List UInt8) : Value := .string ⟨l.toArray⟩
def SpRet (s : List UInt8) (w : World) (e : Ending) (w' : World) : Prop := w = w' /\
 ((∃ (D : ByteArray) (neg : Bool), e = .returned (.tuple #[.string D, .bool neg, .bool true]) /\ Dg.Canon s neg D.data.toList /\ D.size <= s.length) \/
  (e = .returned (.tuple #[.string ⟨#[]⟩, .bool false, .bool false]) /\ ∀ neg d, ¬ Dg.Canon s neg d))
structure RdAt (D d : List UInt8) (n : Nat) (xs : List Int) : Prop where
 dig : Dg.AllDig d
 n1 : 1 <= n
 n19 : n <= 19
 mod : d = [] \/ (n <= d.length /\ (d.length - n) % 19 = 0)
 zero : n = 19 \/ Dg.val BW xs = 0
 eq : Dg.val BW xs * (10 ^ d.length : Nat) + Dg.valD d = Dg.valD D
 len : 19 * xs.length + d.length <= D.length + 18
 first : n = 19 \/ (xs = [] /\ d.length = D.length)
 wf : Dg.Wf BW xs
def strLen : Value -> Nat | .string d => d.size | _ => 0
def RvAt (xs ys : List Int) (i j : Nat) : Prop := ys.length = xs.length /\ ∀ t, t < xs.length -> ys[t]?.getD 0 = if i <= t /\ t <= j then xs[t]?.getD 0 else xs[xs.length - 1 - t]?.getD 0
def RvRet (B : Nat) (w : World) (v : Value) (xs : List Int) (e : Ending) (w' : World) : Prop := e = .returned (.tuple #[]) /\ Mine 5 .u8 B w' v xs.reverse /\ w.grownBy w' v.ownBlock
end Go.Proofs.YtdnheaafcbihbaaGreat
namespace Go.Proofs.YtdnheaafcbihbaaGreat.Dg
def byt (d : Int) : UInt8 := UInt8.ofNat (48 + d.toNat)
structure WrAt (N : Int) (D : List Int) (R : Int) : Prop where
 wf : Wf 10 D
 eq : N = val 10 D + 10 ^ D.length * R
 nz : R = 0 -> Nz D
 R0 : 0 <= R
end Go.Proofs.YtdnheaafcbihbaaGreat.Dg
namespace Go.Proofs.YtdnheaafcbihbaaGreat
open Go Go.RowKit
def dby (D : List Int) : List Int := D.map (48 + ·)
def StrRet (w : World) (l : List UInt8) (e : Ending) (w' : World) : Prop := Below w.heap.size w w' /\ e = .returned (str l)
def IntV (L : Nat) (w : World) (v : Value) (z : Int) : Prop := ∃ sb sv, v = .agg #[.bool sb, sv] /\ sb = decide (z < 0) /\ Num L w sv z.natAbs
def RetInt (L : Nat) (w : World) (z : Int) (e : Ending) (w' : World) : Prop := Below w.heap.size w w' /\ ∃ v', e = .returned v' /\ IntV L w' v' z
theorem IntV.below {L : Nat} {w w' : World} {v : Value} {z : Int} (h : IntV L w v z) (hb : Below w.heap.size w w') : IntV L w' v z := let ⟨sb, sv, e, h1, hn⟩ := h; ⟨sb, sv, e, h1, hn.below hb⟩
theorem IntV.mono {L L' : Nat} {w : World} {v : Value} {z : Int} (h : IntV L w v z) (hL : L <= L') : IntV L' w v z := let ⟨sb, sv, e, h1, hn⟩ := h; ⟨sb, sv, e, h1, hn.mono hL⟩
theorem ttwo_cells {w : World} {g : Nat} {a b : Value} {T : TypeId} (h : w.heap[g]? = some (.cells #[a, b] T (0, 0))) :
 w.cell? ⟨g, 0, none⟩ = some a /\ w.cell? ⟨g, 1, none⟩ = some b /\ w.frozen? ⟨g, 0, none⟩ = false /\ w.frozen? ⟨g, 1, none⟩ = false :=
 ⟨by rw [cell_of_row w g 0 _ T (0, 0) h]; rfl, by rw [cell_of_row w g 1 _ T (0, 0) h]; rfl, frozen_of_row w g 0 _ T h, frozen_of_row w g 1 _ T h⟩
theorem tboxed {w w' : World} {o : Obj} (h : Below (w.heap.size + 1) (w.alloc o) w') : w'.heap[w.heap.size]? = some o := (h.block _ (by omega)).trans (heap_alloc_new w o)
theorem ttwo_set {w : World} {g : Nat} {a b : Value} {T : TypeId} (h : w.heap[g]? = some (.cells #[a, b] T (0, 0))) (u v : Value) :
 ((w.setCell ⟨g, 0, none⟩ u).setCell ⟨g, 1, none⟩ v).heap[g]? = some (.cells #[u, v] T (0, 0)) := by
 have h1 := heap_setCell_same w g 0 #[a, b] T u h
 have h2 := heap_setCell_same _ g 1 _ T v h1
 simpa using h2
theorem Sl.not_boxT {K : IntKind} {w : World} {v : Value} {xs : List Int} {g : Nat} {cs : Array Value} {T : TypeId} {fr : Nat × Nat} (h : Sl K w v xs) (hg : w.heap[g]? = some (.cells cs T fr)) (hc : ∀ (i : Nat) (n : Int), cs[i]? ≠ some (Value.int K n)) : live v ≠ some g := by
 intro hl
 obtain ⟨ao, cap, rfl, hcap, hm, hx⟩ := h
 by_cases h0 : 0 < xs.length
 ·obtain ⟨b, o, rfl, hb, hcell⟩ := hx 0 h0
  have := live_own hl
  simp only [Value.ownBlock, Option.some.injEq] at this
  subst this
  rw [cell_of_row w b (o + 0) cs T fr hg] at hcell
  exact hc _ _ hcell
 ·have : xs.length = 0 := by omega
  rw [this] at hl
  cases ao <;> simp [live] at hl
theorem Num.box {L : Nat} {w : World} {v : Value} {n : Int} {g : Nat} {x : Bool} {a : Option Addr} {k c : Nat} {T : TypeId} (h : Num L w v n) (hg : w.heap[g]? = some (.cells #[.bool x, .slice a k c] T (0, 0))) (u u' : Value) :
 Num L ((w.setCell ⟨g, 0, none⟩ u).setCell ⟨g, 1, none⟩ u') v n := by
 obtain ⟨xs, h1, h2⟩ := h
 refine ⟨xs, h1.kept (tgrowSet (tgrowSet (tgrowRefl w (some g)) 0 u) 1 u') (fun k hk e => ?_), h2⟩
 refine h1.not_boxT hg (fun i m => ?_) (hk.trans e.symm)
 rcases i with _ | _ | i <;> simp
theorem Num.form {L : Nat} {w : World} {v : Value} {n : Int} (h : Num L w v n) : ∃ ao k cap, v = .slice ao k cap := let ⟨xs, ⟨ao, cap, e, _⟩, _⟩ := h; ⟨ao, _, cap, e⟩
def sgn (neg : Bool) (m : Int) : Int := if neg then -m else m
theorem signed_any {L : Nat} (neg : Bool) {sv : Value} {m : Int} {w : World} (h : Num L w sv m) :
 Calls Tryz.prog 134 #[.bool neg, sv] w (RetInt L w (sgn neg m)) := by
 have hN := h
 obtain ⟨xs, a1, a2, a3, a4, a5⟩ := h
 have hm0 : 0 <= m := by rw [<- a4]; exact Dg.val_nonneg (by decide) a2
 have hz : xs = [] ↔ m = 0 := by rw [<- a4]; exact (Dg.val_zero_iff (by decide) a2 a3).symm
 obtain ⟨ao, cap, rfl, hc, hm, hx⟩ := a1
 have hb : Below w.heap.size w (w.alloc (.cells #[.bool (decide (sgn neg m < 0)), .slice ao xs.length cap] 98)) := (Below.refl _ _).alloc (Nat.le_refl _) _
 have hI : Hid (RetInt L w (sgn neg m) (.returned (.agg #[.bool (decide (sgn neg m < 0)), .slice ao xs.length cap])) (w.alloc (.cells #[.bool (decide (sgn neg m < 0)), .slice ao xs.length cap] 98))) :=
  ⟨hb, _, rfl, _, _, rfl, rfl, by
   have e : ((sgn neg m).natAbs : Int) = m := by unfold sgn; split <;> omega
   rw [e]; exact hN.below hb⟩
 by_cases hs : neg = true /\ 0 < m
 ·obtain ⟨rfl, hp⟩ := hs
  have hl : 0 < xs.length := List.length_pos_iff.2 (fun e => by have := hz.1 e; omega)
  have e : decide (sgn true m < 0) = true := by simp [sgn]; omega
  rw [e] at hI
  clear hz hx hm hc a2 a3 a4 hb e hN
  go_enter Tryz.func134, Tryz.ntmps134
  go_wp2
  exact bodyPost_ret (v := .agg #[.bool true, .slice ao xs.length cap]) (by simp [results, Tryz.results134, go_sem]) rfl hI.out
 ·have e : decide (sgn neg m < 0) = false := by
   unfold sgn
   cases neg
   ·simp; omega
   ·simp at hs ⊢; omega
  rw [e] at hI
  have hl : neg = true -> xs.length = 0 := fun h => by
   have : m = 0 := by
    apply Classical.byContradiction
    intro hc
    exact hs ⟨h, by omega⟩
   rw [hz.2 this]; rfl
  have hl2 : Hid (neg = false \/ (neg = true /\ xs.length = 0)) := by
   cases neg
   ·exact .inl rfl
   ·exact .inr ⟨rfl, hl rfl⟩
  clear hz hx hm hc a2 a3 a4 hb e hN hs hl
  rcases hl2.out with rfl | ⟨rfl, hl⟩
  ·go_enter Tryz.func134, Tryz.ntmps134
   go_wp2
   exact bodyPost_ret (v := .agg #[.bool false, .slice ao xs.length cap]) (by simp [results, Tryz.results134, go_sem]) rfl hI.out
  ·rw [hl] at hI ⊢
   go_enter Tryz.func134, Tryz.ntmps134
   go_wp2
   exact bodyPost_ret (v := .agg #[.bool false, .slice ao 0 cap]) (by simp [results, Tryz.results134, go_sem]) rfl hI.out
theorem Num.lt {L : Nat} {w : World} {v : Value} {n : Int} (h : Num L w v n) : 0 <= n /\ n < 18446744073709551616 ^ L := by
 obtain ⟨xs, _, a2, _, rfl, a5⟩ := h
 exact ⟨Dg.val_nonneg (by decide) a2, Int.lt_of_lt_of_le (Dg.val_lt (show (0 : Int) < BW by decide) a2) (Dg.pow_mono (show (0 : Int) < BW by decide) a5)⟩
theorem of_any (n : Int) (w : World) (h0 : -9223372036854775808 <= n) (h1 : n <= 9223372036854775807) :
 Calls Tryz.prog 67 #[.int .i64 n] w (RetInt 1 w n) := by
 by_cases hn : n < 0
 ·have e1 : IntKind.u64.wrap (-IntKind.u64.wrap n) = -n := by simp only [IntKind.wrap_u64]; omega
  have hb0 : Below w.heap.size w (w.alloc (.cells #[.bool false, .slice none 0 0] 98)) := (Below.refl _ _).alloc (Nat.le_refl _) _
  go_enter Tryz.func67, Tryz.ntmps67
  go_wp2_with fail
  refine (oneWord_any (-n) _ (by omega) (by omega)).mono ?_
  rintro e w1 ⟨hb1, v1, rfl, hn1, hf1⟩
  go_wp2_with fail
  refine (signed_any true hn1).mono ?_
  rintro e w2 ⟨hb2, v2, rfl, sb, sv, rfl, hsb, hn2⟩
  obtain ⟨ao, nn, cap, rfl⟩ := hn2.form
  have hbx := tboxed ((hb1.mono (by simp)).trans (hb2.mono (by have := hb1.size; simp at this ⊢; omega)))
  obtain ⟨c0, c1, f0, f1⟩ := ttwo_cells hbx
  have hsz : w.heap.size < w2.heap.size := (Array.getElem?_eq_some_iff.1 hbx).1
  have es : sgn true (-n) = n := by simp [sgn]
  rw [es] at hn2 hsb
  obtain ⟨d0, d1, _, _⟩ := ttwo_cells (ttwo_set hbx (.bool (sb)) (.slice ao nn cap))
  have D0 := Lib.hid d0
  have D1 := Lib.hid d1
  have HN := Lib.hid (hn2.box hbx (.bool (sb)) (.slice ao nn cap))
  have HB := Lib.hid (((((hb0.trans (hb1.mono (by simp))).trans (hb2.mono (by have := hb1.size; simp at this ⊢; omega))).setCell (p := ⟨w.heap.size, 0, none⟩) (Nat.le_refl _) (.bool (sb))).setCell (p := ⟨w.heap.size, 1, none⟩) (Nat.le_refl _) (.slice ao nn cap)))
  have HF := Lib.hid hf1
  have HSB := Lib.hid hsb
  clear hbx d0 d1 hn2 hb0 hb1 hb2 hn1 es hf1 hsb
  go_wp2
  exact bodyPost_ret (v := .agg #[.bool (sb), .slice ao nn cap]) (by simp [results, Tryz.results67, go_sem, D0.out, D1.out]) rfl ⟨HB.out, _, rfl, _, _, rfl, HSB.out, HN.out⟩
 ·have e1 : IntKind.u64.wrap n = n := by simp only [IntKind.wrap_u64]; omega
  have hb0 : Below w.heap.size w (w.alloc (.cells #[.bool false, .slice none 0 0] 98)) := (Below.refl _ _).alloc (Nat.le_refl _) _
  go_enter Tryz.func67, Tryz.ntmps67
  go_wp2_with fail
  refine (oneWord_any (n) _ (by omega) (by omega)).mono ?_
  rintro e w1 ⟨hb1, v1, rfl, hn1, hf1⟩
  go_wp2_with fail
  refine (signed_any false hn1).mono ?_
  rintro e w2 ⟨hb2, v2, rfl, sb, sv, rfl, hsb, hn2⟩
  obtain ⟨ao, nn, cap, rfl⟩ := hn2.form
  have hbx := tboxed ((hb1.mono (by simp)).trans (hb2.mono (by have := hb1.size; simp at this ⊢; omega)))
  obtain ⟨c0, c1, f0, f1⟩ := ttwo_cells hbx
  have hsz : w.heap.size < w2.heap.size := (Array.getElem?_eq_some_iff.1 hbx).1
  have es : sgn false (n) = n := by simp [sgn]
  rw [es] at hn2 hsb
  obtain ⟨d0, d1, _, _⟩ := ttwo_cells (ttwo_set hbx (.bool (sb)) (.slice ao nn cap))
  have D0 := Lib.hid d0
  have D1 := Lib.hid d1
  have HN := Lib.hid (hn2.box hbx (.bool (sb)) (.slice ao nn cap))
  have HB := Lib.hid (((((hb0.trans (hb1.mono (by simp))).trans (hb2.mono (by have := hb1.size; simp at this ⊢; omega))).setCell (p := ⟨w.heap.size, 0, none⟩) (Nat.le_refl _) (.bool (sb))).setCell (p := ⟨w.heap.size, 1, none⟩) (Nat.le_refl _) (.slice ao nn cap)))
  have HF := Lib.hid hf1
  have HSB := Lib.hid hsb
  clear hbx d0 d1 hn2 hb0 hb1 hb2 hn1 es hf1 hsb
  go_wp2
  exact bodyPost_ret (v := .agg #[.bool (sb), .slice ao nn cap]) (by simp [results, Tryz.results67, go_sem, D0.out, D1.out]) rfl ⟨HB.out, _, rfl, _, _, rfl, HSB.out, HN.out⟩
theorem bl_bounds {xs : List Int} {x : Int} {s : Nat} (hw : Dg.Wf BW xs) (h0 : 0 < xs.length) (hx : x = xs[xs.length - 1]?.getD 0) (hs : s <= 63) (h1 : 9223372036854775808 <= x * 2 ^ s) (h2 : x * 2 ^ s < 18446744073709551616) :
 Dg.val BW xs < 2 ^ (64 * xs.length - s) /\ 2 ^ (64 * xs.length - s) <= 2 * Dg.val BW xs := by
 have e := Dg.val_take_succD BW xs (xs.length - 1)
 rw [show xs.length - 1 + 1 = xs.length by omega, List.take_of_length_le (Nat.le_refl _), <- hx] at e
 have hl := Dg.val_lt (show (0 : Int) < BW by decide) (hw.take (xs.length - 1))
 have hn := Dg.val_nonneg (show (0 : Int) < BW by decide) (hw.take (xs.length - 1))
 have elen : (xs.take (xs.length - 1)).length = xs.length - 1 := by simp
 rw [elen] at hl
 have eB : BW ^ (xs.length - 1) = 2 ^ (64 * (xs.length - 1)) := by rw [Int.pow_mul]; rfl
 have hp : (0 : Int) < 2 ^ s := Dg.pow_pos (by omega) s
 have hq : (0 : Int) < 2 ^ (63 - s) := Dg.pow_pos (by omega) _
 have e63 : (2 : Int) ^ (63 - s) * 2 ^ s = 9223372036854775808 := by rw [<- Int.pow_add, show 63 - s + s = 63 by omega]; rfl
 have hx1 : 2 ^ (63 - s) <= x := by
  apply Classical.byContradiction
  intro hc
  have := Int.mul_lt_mul_of_pos_right (show x < 2 ^ (63 - s) by omega) hp
  omega
 have hx2 : x < 2 * 2 ^ (63 - s) := by
  apply Classical.byContradiction
  intro hc
  have := Int.mul_le_mul_of_nonneg_right (show 2 * 2 ^ (63 - s) <= x by omega) (Int.le_of_lt hp)
  rw [Int.mul_assoc, e63] at this
  omega
 have ek : (2 : Int) ^ (64 * xs.length - s) = 2 * (2 ^ (64 * (xs.length - 1)) * 2 ^ (63 - s)) := by
  rw [<- Int.pow_add, Int.mul_comm 2, <- Int.pow_succ]; congr 1; omega
 rw [ek, e]
 rw [eB] at hl ⊢
 have hP : (0 : Int) < 2 ^ (64 * (xs.length - 1)) := Dg.pow_pos (by omega) _
 generalize (2 : Int) ^ (64 * (xs.length - 1)) = P at *
 generalize (2 : Int) ^ (63 - s) = q at *
 have m1 := Int.mul_le_mul_of_nonneg_left hx1 (Int.le_of_lt hP)
 have m2 := Int.mul_le_mul_of_nonneg_left (show x + 1 <= 2 * q by omega) (Int.le_of_lt hP)
 rw [Int.mul_add] at m2
 have m3 : P * (2 * q) = 2 * (P * q) := Int.mul_left_comm _ _ _
 omega
theorem bitLength_any {L : Nat} {v : Value} {n : Int} {w : World} (h : Num L w v n) (hL : L <= 17000000000000) :
 Calls Tryz.prog 241 #[v] w fun e w' => ∃ k : Nat, e = .returned (.int .i64 k) /\ w = w' /\ n < 2 ^ k /\ (0 < n -> 2 ^ k <= 2 * n) /\ (n = 0 -> k = 0) /\ k <= 64 * L := by
 obtain ⟨xs, a1, a2, a3, rfl, a5⟩ := h
 obtain ⟨ao, cap, rfl, hc, hm, hx⟩ := a1
 by_cases h0 : 0 < xs.length
 ·obtain ⟨b, o, rfl, hb, hcell⟩ := hx (xs.length - 1) (by omega)
  obtain ⟨x, ex⟩ : ∃ x, x = xs[xs.length - 1]?.getD 0 := ⟨_, rfl⟩
  have hxb := wfD a2 (xs.length - 1)
  rw [<- ex] at hcell hxb
  have hxp : 0 < x := by
   have hne : xs ≠ [] := List.length_pos_iff.1 h0
   have hz := a3 hne
   rw [List.getLast_eq_getElem] at hz
   have h4 : xs.length - 1 < xs.length := by omega
   have : x = xs[xs.length - 1] := by rw [ex]; simp [h4]
   omega
  have t1 : ((xs.length : Int) == 0) = false := beq_eq_false_iff_ne.2 (by omega)
  have HP := Lib.hid (Dg.val_pos (show (0 : Int) < BW by decide) a2 a3 (List.length_pos_iff.1 h0))
  have HX := Lib.hid ex
  have HW := Lib.hid a2
  clear ex a2 a3 hx hm hc
  go_enter Tryz.func241, Tryz.ntmps241
  go_wp2_with fail
  refine (lz64 x _ hxp hxb.2).mono ?_
  rintro e w1 ⟨s, rfl, rfl, hs, hy1, hy2⟩
  have HB := Lib.hid (bl_bounds HW.out h0 HX.out hs hy1 hy2)
  clear hy1 hy2
  go_wp2
  go_ret
  refine ⟨64 * xs.length - s, ?_, rfl, HB.out.1, fun _ => HB.out.2, fun hz => ?_, by omega⟩
  ·show Ending.returned (Value.int .i64 _) = _
   congr 2
   omega
  ·have := HP.out
   omega
 ·have t1 : ((xs.length : Int) == 0) = true := beq_iff_eq.2 (by omega)
  have hxs : xs = [] := List.eq_nil_of_length_eq_zero (by omega)
  have HX := Lib.hid hxs
  clear hxs hx hm hc a2 a3
  go_enter Tryz.func241, Tryz.ntmps241
  go_wp2
  go_ret
  refine ⟨0, rfl, rfl, ?_, ?_, fun _ => rfl, by omega⟩
  ·rw [HX.out]; simp [Dg.val]
  ·rw [HX.out]; simp [Dg.val]
def maxBits : Nat := 40000
def smallB (n : Int) : Bool := decide (n < 2 ^ maxBits)
theorem small_of {n : Int} {k : Nat} (h0 : 0 <= n) (h1 : n < 2 ^ k) (h2 : 0 < n -> 2 ^ k <= 2 * n) (hk : n = 0 -> k <= maxBits) : smallB n = decide (k <= maxBits) := by
 unfold smallB
 by_cases hc : k <= maxBits
 ·have := Dg.pow_mono (show (0 : Int) < 2 by omega) hc
  simp [hc]
  omega
 ·have h3 : 0 < n := by
   apply Classical.byContradiction
   intro h
   exact hc (hk (by omega))
  have h4 := h2 h3
  have h5 := Dg.pow_mono (show (0 : Int) < 2 by omega) (show maxBits + 1 <= k by omega)
  rw [Int.pow_succ] at h5
  simp [hc]
  omega
theorem isSmall_any {L : Nat} {v : Value} {n : Int} {w : World} (h : Num L w v n) (hL : L <= 17000000000000) :
 Calls Tryz.prog 198 #[v] w fun e w' => e = .returned (.bool (smallB n)) /\ w = w' := by
 have hn0 := h.lt.1
 go_enter Tryz.func198, Tryz.ntmps198
 go_wp2_with fail
 refine (bitLength_any h hL).mono ?_
 rintro e w1 ⟨k, rfl, rfl, h1, h2, hz, h3⟩
 have HS : Hid (smallB n = decide (k <= maxBits)) := small_of hn0 h1 h2 (fun h => by rw [hz h]; exact Nat.zero_le _)
 have HD : Hid (decide ((k : Int) <= 40000) = decide (k <= maxBits)) := decide_eq_decide.2 (by unfold maxBits; omega)
 clear h1 h2 hz
 go_wp2
 go_ret
 exact ⟨by rw [HS.out, <- HD.out]; rfl, rfl⟩
end Go.Proofs.YtdnheaafcbihbaaGreat
