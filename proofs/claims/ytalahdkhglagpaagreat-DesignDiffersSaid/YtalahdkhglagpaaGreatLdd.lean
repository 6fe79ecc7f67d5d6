import Derived.Test.YtalahdkhglagpaaGreatDv
import Derived.Test.YtalahdkhglagpaaGreatDh
import Derived.Test.YtalahdkhglagpaaGreatOpl
set_option linter.unusedVariables false
set_option linter.unusedSimpArgs false
namespace Go.Proofs.YtalahdkhglagpaaGreat
open Go Go.RowKit Go.Deep
open Dsg
theorem umod_nat (q : Nat) (hq : 1 ≤ q) (a : Int) : ∃ U r : Nat, IntKind.u64.wrap a = U ∧ (U : Int) % (q : Int) = r ∧ (U : Int).tmod (q : Int) = r ∧ r < q ∧ (IntKind.u64.wrap a % (q : Int)).toNat = r ∧ U ≤ 18446744073709551615 := by
  have h0 : 0 ≤ IntKind.u64.wrap a ∧ IntKind.u64.wrap a ≤ 18446744073709551615 := by rw [IntKind.wrap_u64]; omega
  obtain ⟨U, hU⟩ : ∃ U : Nat, IntKind.u64.wrap a = U := ⟨(IntKind.u64.wrap a).toNat, by omega⟩
  rw [hU] at h0 ⊢
  have h1 : (U : Int) % (q : Int) = ((U % q : Nat) : Int) := (Int.natCast_emod U q).symm
  refine ⟨U, U % q, rfl, h1, ?_, Nat.mod_lt _ hq, by rw [h1]; rfl, by omega⟩
  rw [Int.tmod_eq_emod_of_nonneg (by omega), h1]
theorem dvL_len (v : Nat) (xs : List Int) (i : Nat) : (dvL v xs i).length ≤ v := by
  unfold dvL
  refine Nat.le_trans (List.length_filter_le _ _) ?_
  simp
theorem dvF_len (v : Nat) (xs : List Int) : (dvF v xs).length = v := by simp [dvF]
set_option maxRecDepth 20000 in
set_option maxHeartbeats 8000000 in
theorem designDiffers_any (v : Int) (vv : Value) (xs : List Int) (w : World) (hv0 : -9223372036854775808 ≤ v) (hv1 : v ≤ 9223372036854775807) (h : Sl .i64 w vv xs) (hi : I64s xs) :
    Calls Tryz.prog 3 #[.int .i64 v, vv] w (RB w (.bool true)) := by
  have HRW := Kept.mk (raw6_any vv xs 30 w h (by omega))
  have HAW := Kept.mk (fun w => awake_any w)
  clear h hi
  go_enter Tryz.func3, Tryz.ntmps3
  go_wp2_with fail
  refine HRW.out.mono ?_
  rintro e w1 ⟨hb1, lv, rfl, hm1⟩
  obtain ⟨zs0, hzs⟩ : ∃ l, xs.take 30 = l := ⟨_, rfl⟩
  have hz30 : zs0.length ≤ 30 := by rw [← hzs, List.length_take]; omega
  rw [hzs] at hm1
  obtain ⟨la, lc, rfl, _, _⟩ := hm1.sl.form
  obtain ⟨n, hn⟩ : ∃ n, zs0.length = n := ⟨_, rfl⟩
  rw [hn] at hm1 hz30 ⊢
  have HM1 := Kept.mk hm1
  have HB1 := Kept.mk hb1
  clear hb1 hm1 hzs
  go_wp2
  go_loopw [0, 6] (fun xv kv wr => ∃ (v : Int) (k : Nat) (zs : List Int), k ≤ 2 ∧ xv = .int .i64 v ∧ kv = .int .i64 k ∧ zs.length = n ∧ Kept (Mine 3 .i64 w.heap.size wr (.slice la n lc) zs) ∧ Kept (Below w.heap.size w wr)) (fun _ kv _ => 2 - (intOf kv).toNat)
  case atStart => exact ⟨v, 0, zs0, by omega, rfl, rfl, hn, HM1, HB1⟩
  case round =>
    obtain ⟨v, k, zs, hk2, rfl, rfl, hzn, hmn, hbl⟩ := hrel
    by_cases hlt : k < 2
    · have HSL := Kept.mk (fun W (hW : Below wr.heap.size wr W) => (hmn.out.below hW).sl)
      have HD1 := Kept.mk (fun W (hW : Below wr.heap.size wr W) => isDifference_any v _ zs W (HSL.out W hW))
      have HD2 := Kept.mk (fun W (hW : Below wr.heap.size wr W) => risDifference_any v _ zs W (HSL.out W hW))
      have HD3 := Kept.mk (fun W (hW : Below wr.heap.size wr W) => develop_any v _ zs W (HSL.out W hW) (by omega))
      have HD4 := Kept.mk (fun W (hW : Below wr.heap.size wr W) => rdevelop_any v _ zs W (HSL.out W hW))
      have HZN := Kept.mk hzn
      have HMN := Kept.mk hmn.out
      unfold DfRet at HD1 HD2
      obtain ⟨c, hc⟩ : ∃ c, (dfF v zs).1 = c := ⟨_, rfl⟩
      obtain ⟨t, ht⟩ : ∃ t, (dfF v zs).2 = t := ⟨_, rfl⟩
      rw [hc, ht] at HD1 HD2
      have e1 : (c != c) = false := by simp
      have e2 : (t != t) = false := by simp
      clear hc ht hzn
      go_wp2_with fail
      refine (HD1.out _ (Below.refl _ _)).mono ?_
      rintro e w2 ⟨hb2, rfl⟩
      have HB2 := Kept.mk hb2
      clear hb2
      go_wp2_with fail
      refine (HD2.out _ HB2.out).mono ?_
      rintro e w3 ⟨hb3, rfl⟩
      have HB3 := Kept.mk (bstep HB2.out hb3)
      clear hb3 HB2
      go_wp2_with fail
      refine (HD3.out _ HB3.out).mono ?_
      rintro e w4 ⟨hb4, hr4⟩
      have HB4 := Kept.mk (bstep HB3.out hb4)
      have HT0 : True := trivial
      rcases hr4 with ⟨hok, ao, cap, rfl, hc4, hm4, hs4⟩ | ⟨hno, rfl⟩
      · have HOK := Kept.mk hok
        have HS4 := Kept.mk hs4
        clear hb4 HB3 hok hs4
        go_wp2_with fail
        refine (HD4.out _ HB4.out).mono ?_
        rintro e w5 ⟨hb5, ⟨_, ao2, cap2, rfl, hc5, hm5, hs5⟩ | ⟨hno, _⟩⟩
        rotate_left
        · exact absurd HOK.out hno
        have HB5 := Kept.mk (bstep HB4.out hb5)
        obtain ⟨u, hu⟩ : ∃ u, v.toNat = u := ⟨_, rfl⟩
        rw [hu] at HS4 hs5 hc4 hc5
        rw [hu]
        have HRO := Kept.mk (rows6_eq ao ao2 (dvF u zs) cap cap2 u w5 (HS4.out.below hb5) hs5 (dvF_len u zs) hc4 hc5 hm4 hm5 (fun l hl => by
          unfold dvF at hl
          obtain ⟨i, _, rfl⟩ := List.mem_map.1 hl
          have h1 := dvL_len u zs i
          have h2 := HOK.out.2.1
          omega))
        clear hb5 hs5 hc4 hc5 hm4 hm5 hu HB4 HS4
        go_wp2_with fail
        refine HRO.out.mono ?_
        rintro e w6 ⟨hb6, rfl⟩
        have HB6 := Kept.mk (bstep HB5.out hb6)
        clear hb6 HB5 HRO
        obtain ⟨U, r, hU, hr1, hr2, hrq, hr3, hUm⟩ := umod_nat 20 (by omega) v
        obtain ⟨m, hm⟩ : ∃ m : Nat, 3 + r = m := ⟨_, rfl⟩
        have w1' : IntKind.i64.wrap (r : Int) = r := wrapB (by omega) (by omega)
        have w2' : IntKind.i64.wrap (3 + (r : Int)) = m := by rw [← hm]; rw [show (3 : Int) + (r : Int) = ((3 + r : Nat) : Int) by omega]; exact wrapB (by omega) (by omega)
        have hm3 : 3 ≤ m := by omega
        have hm22 : m ≤ 22 := by omega
        have eq1 : IntKind.u64.wrap (m : Int) = m := by rw [IntKind.wrap_u64]; omega
        have eq0 : ¬ ((m : Int) = 0) := by omega
        have eq2 : ¬ (m = 0) := by omega
        have HMZ := Kept.mk (HMN.out.below HB6.out)
        have HBZ := Kept.mk (hbl.out.trans (HB6.out.mono hbl.out.size))
        have HFX : Kept ((3 : Int) + (U : Int) % 20 = (m : Int)) := ⟨by rw [show (U : Int) % 20 = r from hr1]; omega⟩
        clear hr3 hm HB6 HSL HD1 HD2 HD3 HD4
        go_wp2
        rw [HFX.out]
        clear hU hr1 hr2 hUm w1' w2' e1 e2
        go_loopw [15] (fun iv wr => ∃ (i : Nat) (ys : List Int), i ≤ n ∧ iv = .int .i64 i ∧ Kept (ys.length = n) ∧ Kept (Mine 3 .i64 w.heap.size wr (.slice la n lc) ys) ∧ Kept (Below w.heap.size w wr)) (fun iv _ => n - (intOf iv).toNat)
        case atStart => exact ⟨0, zs, Nat.zero_le _, rfl, HZN, HMZ, HBZ⟩
        case round =>
          obtain ⟨i, ys, hin, rfl, hyn, hmy, hby⟩ := hrel
          by_cases hli : i < n
          · obtain ⟨g, gc, e, hgB, hgl, _, _, q0, q1, hst⟩ := hmy.out.at (i := i) (by rw [hyn.out]; exact hli)
            rw [hyn.out] at e
            simp only [Value.slice.injEq] at e
            obtain ⟨rfl, _, rfl⟩ := e
            obtain ⟨a, ha⟩ : ∃ a, ys[i]?.getD 0 = a := ⟨_, rfl⟩
            rw [ha] at q0
            obtain ⟨U2, r2, hU2, hs1, hs2, hsq, hs3, hUm2⟩ := umod_nat m (by omega) a
            have w3' : IntKind.i64.wrap (r2 : Int) = r2 := wrapB (by omega) (by omega)
            have HM2 := Kept.mk (hst (r2 : Int))
            have HB2 := Kept.mk (hby.out.setCell (p := ⟨g, i, none⟩) hgB (.int .i64 (r2 : Int)))
            have HLY : Kept ((ys.set i (r2 : Int)).length = n) := ⟨by rw [List.length_set]; exact hyn.out⟩
            clear ha hst hs3
            go_wp2
            go_roundw
            case rel => exact ⟨i + 1, _, by omega, by go_num, HLY, HM2, HB2⟩
            case measure => simp [intOf] <;> omega
          · obtain rfl : i = n := by omega
            go_wp2
            go_roundw
            case rel => exact ⟨_, k + 1, ys, by omega, rfl, by go_num, hyn.out, hmy, hby⟩
            case measure => simp [intOf] <;> omega
      · have HNO := Kept.mk hno
        clear hb4 HB3 hno
        go_wp2_with fail
        refine (HD4.out _ HB4.out).mono ?_
        rintro e w5 ⟨hb5, ⟨hok, _⟩ | ⟨_, rfl⟩⟩
        · exact absurd hok HNO.out
        have HB5 := Kept.mk (bstep HB4.out hb5)
        have HRO := Kept.mk (rows6_eq none none [] 0 0 0 w5 (fun i hi => absurd hi (Nat.not_lt_zero _)) (fun i hi => absurd hi (Nat.not_lt_zero _)) rfl (Nat.le_refl _) (Nat.le_refl _) (Nat.zero_le _) (Nat.zero_le _) (fun l hl => by cases hl))
        clear hb5 HB4
        go_wp2_with fail
        refine HRO.out.mono ?_
        rintro e w6 ⟨hb6, rfl⟩
        have HB6 := Kept.mk (bstep HB5.out hb6)
        clear hb6 HB5 HRO
        obtain ⟨U, r, hU, hr1, hr2, hrq, hr3, hUm⟩ := umod_nat 20 (by omega) v
        obtain ⟨m, hm⟩ : ∃ m : Nat, 3 + r = m := ⟨_, rfl⟩
        have w1' : IntKind.i64.wrap (r : Int) = r := wrapB (by omega) (by omega)
        have w2' : IntKind.i64.wrap (3 + (r : Int)) = m := by rw [← hm]; rw [show (3 : Int) + (r : Int) = ((3 + r : Nat) : Int) by omega]; exact wrapB (by omega) (by omega)
        have hm3 : 3 ≤ m := by omega
        have hm22 : m ≤ 22 := by omega
        have eq1 : IntKind.u64.wrap (m : Int) = m := by rw [IntKind.wrap_u64]; omega
        have eq0 : ¬ ((m : Int) = 0) := by omega
        have eq2 : ¬ (m = 0) := by omega
        have HMZ := Kept.mk (HMN.out.below HB6.out)
        have HBZ := Kept.mk (hbl.out.trans (HB6.out.mono hbl.out.size))
        have HFX : Kept ((3 : Int) + (U : Int) % 20 = (m : Int)) := ⟨by rw [show (U : Int) % 20 = r from hr1]; omega⟩
        clear hr3 hm HB6 HSL HD1 HD2 HD3 HD4
        go_wp2
        rw [HFX.out]
        clear hU hr1 hr2 hUm w1' w2' e1 e2
        go_loopw [15] (fun iv wr => ∃ (i : Nat) (ys : List Int), i ≤ n ∧ iv = .int .i64 i ∧ Kept (ys.length = n) ∧ Kept (Mine 3 .i64 w.heap.size wr (.slice la n lc) ys) ∧ Kept (Below w.heap.size w wr)) (fun iv _ => n - (intOf iv).toNat)
        case atStart => exact ⟨0, zs, Nat.zero_le _, rfl, HZN, HMZ, HBZ⟩
        case round =>
          obtain ⟨i, ys, hin, rfl, hyn, hmy, hby⟩ := hrel
          by_cases hli : i < n
          · obtain ⟨g, gc, e, hgB, hgl, _, _, q0, q1, hst⟩ := hmy.out.at (i := i) (by rw [hyn.out]; exact hli)
            rw [hyn.out] at e
            simp only [Value.slice.injEq] at e
            obtain ⟨rfl, _, rfl⟩ := e
            obtain ⟨a, ha⟩ : ∃ a, ys[i]?.getD 0 = a := ⟨_, rfl⟩
            rw [ha] at q0
            obtain ⟨U2, r2, hU2, hs1, hs2, hsq, hs3, hUm2⟩ := umod_nat m (by omega) a
            have w3' : IntKind.i64.wrap (r2 : Int) = r2 := wrapB (by omega) (by omega)
            have HM2 := Kept.mk (hst (r2 : Int))
            have HB2 := Kept.mk (hby.out.setCell (p := ⟨g, i, none⟩) hgB (.int .i64 (r2 : Int)))
            have HLY : Kept ((ys.set i (r2 : Int)).length = n) := ⟨by rw [List.length_set]; exact hyn.out⟩
            clear ha hst hs3
            go_wp2
            go_roundw
            case rel => exact ⟨i + 1, _, by omega, by go_num, HLY, HM2, HB2⟩
            case measure => simp [intOf] <;> omega
          · obtain rfl : i = n := by omega
            go_wp2
            go_roundw
            case rel => exact ⟨_, k + 1, ys, by omega, rfl, by go_num, hyn.out, hmy, hby⟩
            case measure => simp [intOf] <;> omega
    · obtain rfl : k = 2 := by omega
      go_wp2_with fail
      refine (HAW.out _).mono ?_
      rintro e w2 ⟨hb2, rfl⟩
      have HB2 := Kept.mk (bstep hbl.out hb2)
      clear hb2
      go_wp2
      go_ret
      exact ⟨HB2.out, rfl⟩
end Go.Proofs.YtalahdkhglagpaaGreat
