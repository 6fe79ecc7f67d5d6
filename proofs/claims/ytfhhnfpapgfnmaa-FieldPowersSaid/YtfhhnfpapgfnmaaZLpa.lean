/-
  Texts of the proof, merged by program: Lpa.
-/
import Derived.Test.YtfhhnfpapgfnmaaZLgb
import Derived.Test.YtfhhnfpapgfnmaaZ9
set_option linter.unusedVariables false
set_option linter.unusedSimpArgs false
namespace Go.Proofs.Ytfhhnfpapgfnmaa
open Go Go.RowKit Go.Deep
open FFld (ints)
set_option maxRecDepth 20000 in
set_option maxHeartbeats 4000000 in
/-- The reference's logarithm. -/
theorem rlogr_any {D : FFld.FD} (hD : D.Ok) (a l : Nat) (w : World) (hl : l < D.p ^ D.k - 1) (hla : FFld.ppow hD.pre.pk D.g l = a) :
    Calls Try.prog 57 #[rfv D.q D.p D.k D.m, .int .i64 a] w (RB w (.int .i64 l)) := by
  have HX0 : Kept (Bxs w [rbox D.q D.p D.k D.m] (w.alloc (rbox D.q D.p D.k D.m))) := ⟨(Bxs.start w).alloc (by simp) _⟩
  have HG := Kept.mk (fun W => rgenerator_any D hD W)
  have hq6 : D.p ^ D.k ≤ 65536 := hD.pre.small
  have HM := Kept.mk (fun W x (hx : x < D.p ^ D.k) => rmul_any D.q D.p D.k D.m x D.g W hD.pre.pk.p2 hD.pre.pk.k1 hx hD.gq hq6 (md_ok hD))
  have HS := Kept.mk (fun n => FFld.ppow_succ hD.pre.pk D.g n hD.gq)
  have HZ := Kept.mk (FFld.ppow_zero hD.pre.pk D.g hD.gq)
  have HL := Kept.mk (fun n => FFld.ppow_lt hD.pre.pk D.g n)
  have HI := Kept.mk (fun i (hi : i < l) (e : FFld.ppow hD.pre.pk D.g i = a) => show i = l from hD.pow_inj (by omega) hl (e.trans hla.symm))
  have HLA := Kept.mk hla
  have hl6 : l ≤ 65536 := by omega
  clear hl hla hq6
  go_enter Try.func57, Try.ntmps57
  obtain ⟨c0, c1, c2, c3⟩ := four_cells HX0.out.b0
  go_wp2_with fail
  refine (HG.out _).mono ?_
  rintro e w1 ⟨hb1, rfl⟩
  have HX1 := Kept.mk (HX0.out.below hb1)
  clear hb1 c0 c1 c2 c3
  go_wp2
  go_loopw [6, 7] (fun xv nv wr => ∃ (n x : Nat), n ≤ l ∧ nv = .int .i64 n ∧ xv = .int .i64 x ∧ Kept (FFld.ppow hD.pre.pk D.g n = x) ∧ Kept (Bxs w [rbox D.q D.p D.k D.m] wr)) (fun _ nv _ => l - (intOf nv).toNat)
  case atStart => exact ⟨0, 1, Nat.zero_le _, rfl, rfl, HZ, HX1⟩
  case round =>
    obtain ⟨n, x, hn, rfl, rfl, hx, hbx⟩ := hrel
    obtain ⟨c0, c1, c2, c3⟩ := four_cells hbx.out.b0
    by_cases hxa : x = a
    · have hnl : n = l := by
        rcases Nat.lt_or_ge n l with h | h
        · exact HI.out n h (hx.out.trans hxa)
        · omega
      subst hxa
      subst hnl
      have e0 : ((x : Int) == (x : Int)) = true := by simp
      go_wp2
      go_ret
      exact ⟨hbx.out.1, rfl⟩
    · have hnl : n < l := by
        rcases Nat.lt_or_ge n l with h | h
        · exact h
        · exfalso
          obtain rfl : n = l := by omega
          exact hxa (hx.out.symm.trans HLA.out)
      have e0 : ((x : Int) == (a : Int)) = false := by rw [beq_eq_false_iff_ne]; omega
      obtain ⟨y, hy⟩ : ∃ y, FFld.pmul D.p D.k D.m x D.k D.g = y := ⟨_, rfl⟩
      have HY : Kept (FFld.ppow hD.pre.pk D.g (n + 1) = y) := ⟨by rw [HS.out, hx.out, hy]⟩
      have hM := Kept.mk (fun W => HM.out W x (by rw [← hx.out]; exact HL.out n))
      rw [hy] at hM
      clear hy hxa
      go_wp2_with fail
      refine (hM.out _).mono ?_
      rintro e w2 ⟨hb2, rfl⟩
      have HX2 := Kept.mk (hbx.out.below hb2)
      clear hb2 hM c0 c1 c2 c3
      go_wp2
      go_roundw
      case rel => exact ⟨n + 1, y, by omega, by go_num, rfl, HY, HX2⟩
      case measure => simp [intOf] <;> omega
set_option maxRecDepth 20000 in
set_option maxHeartbeats 8000000 in
theorem fieldPowers_any (order x n : Int) (w : World) (o0 : -9223372036854775808 ≤ order) (o1 : order ≤ 9223372036854775807) (x0 : -9223372036854775808 ≤ x) (x1 : x ≤ 9223372036854775807) (n0 : -9223372036854775808 ≤ n) (n1 : n ≤ 9223372036854775807) :
    Calls Try.prog 5 #[.int .i64 order, .int .i64 x, .int .i64 n] w (RB w (.bool true)) := by
  go_enter Try.func5, Try.ntmps5
  go_wp2_with fail
  refine (some_any order 5000 w o0 o1 (by omega) (by omega)).mono ?_
  rintro e w1 ⟨hb1, D, b, hD, hle, hbl, hf, rfl⟩
  have HB1 := Kept.mk hb1
  have HF1 := Kept.mk hf
  have HD := Kept.mk hD
  have hq0 : D.q = D.p ^ D.k := rfl
  have hq6 := hD.pre.small
  have hq1 := hD.pre.pk.one_lt
  rw [← hq0] at hq1
  have hbx : Below w1.heap.size w1 (w1.alloc (rbox D.q D.p D.k D.m)) := (Below.refl _ _).alloc (Nat.le_refl _) _
  obtain ⟨i0, i1, i2, i3⟩ := four_cells (heap_alloc_new w1 (rbox D.q D.p D.k D.m))
  have HX := Kept.mk hbx
  have hns : w1.heap.size < (w1.alloc (rbox D.q D.p D.k D.m)).heap.size := by simp
  clear hb1 hf hD hbx hq0
  have hq6' : D.q ≤ 65536 := hq6
  obtain ⟨r, hr, hrq⟩ := red_nat HD.out x
  have hI := Kept.mk (fun W => rin_any D.q D.p D.k D.m x W (by omega) hq6' x0 x1)
  rw [hr] at hI
  have HR := Kept.mk hr
  have HF := Kept.mk (HF1.out.below HX.out)
  have HB := Kept.mk (bstep HB1.out HX.out)
  obtain ⟨g8, hg8⟩ : ∃ g, w1.heap.size = g := ⟨_, rfl⟩
  clear HF1 HB1 HX hr
  go_wp2_with fail
  refine (hI.out _).mono ?_
  rintro e w2 ⟨hb, rfl⟩
  replace HF := Kept.mk (HF.out.below hb)
  replace HB := Kept.mk (bstep HB.out hb)
  have j0 := belowCell hb i0
  have j1 := belowCell hb i1
  have j2 := belowCell hb i2
  have j3 := belowCell hb i3
  rw [hg8] at j0 j1 j2 j3
  try rw [hg8]
  clear hb hI hg8 i0 i1 i2 i3 hns
  by_cases hr0 : r = 0
  · subst hr0
    have e0 : (((0 : Nat) : Int) == 0) = true := rfl
    have hLz := Kept.mk (fun W (hf : FldB D W b) => flog_zero x W hf x0 x1 HR.out)
    by_cases hn0 : n = 0
    · subst hn0
      have hPz := Kept.mk (fpow_zero x w2 HF.out x0 x1 0 HR.out)
      go_wp2_with fail
      refine hPz.out.mono ?_
      rintro e w3 ⟨rfl, rfl⟩
      go_wp2_with fail
      refine (hLz.out _ HF.out).mono ?_
      rintro e w4 ⟨hb4, rfl⟩
      replace HB := Kept.mk (bstep HB.out hb4)
      clear hb4
      go_wp2_with fail
      refine (awake_any _).mono ?_
      rintro e w5 ⟨hb5, rfl⟩
      replace HB := Kept.mk (bstep HB.out hb5)
      clear hb5
      go_wp2
      go_ret
      exact ⟨HB.out, rfl⟩
    · have hPn := Kept.mk (fpow_none x n w2 HF.out x0 x1 HR.out hn0)
      have en : ((n : Int) == 0) = false := by rw [beq_eq_false_iff_ne]; exact hn0
      by_cases hneg : n < 0
      · have hd : decide (n < 0) = true := by simp [hneg]
        rw [if_pos hneg] at hPn
        go_wp2_with fail
        refine hPn.out.mono ?_
        rintro e w3 ⟨rfl, rfl⟩
        go_wp2_with fail
        refine (hLz.out _ HF.out).mono ?_
        rintro e w4 ⟨hb4, rfl⟩
        replace HB := Kept.mk (bstep HB.out hb4)
        clear hb4
        go_wp2_with fail
        refine (awake_any _).mono ?_
        rintro e w5 ⟨hb5, rfl⟩
        replace HB := Kept.mk (bstep HB.out hb5)
        clear hb5
        go_wp2
        go_ret
        exact ⟨HB.out, rfl⟩
      · have hd : decide (n < 0) = false := by simp; omega
        rw [if_neg hneg] at hPn
        go_wp2_with fail
        refine hPn.out.mono ?_
        rintro e w3 ⟨rfl, rfl⟩
        go_wp2_with fail
        refine (hLz.out _ HF.out).mono ?_
        rintro e w4 ⟨hb4, rfl⟩
        replace HB := Kept.mk (bstep HB.out hb4)
        clear hb4
        go_wp2_with fail
        refine (awake_any _).mono ?_
        rintro e w5 ⟨hb5, rfl⟩
        replace HB := Kept.mk (bstep HB.out hb5)
        clear hb5
        go_wp2
        go_ret
        exact ⟨HB.out, rfl⟩
  · have e0 : ((r : Int) == 0) = false := by rw [beq_eq_false_iff_ne]; omega
    obtain ⟨l, hl, hla⟩ := HD.out.log r hrq hr0
    have hpk := HD.out.pre.pk
    obtain ⟨m, hm⟩ : ∃ m, D.q - 1 = m := ⟨_, rfl⟩
    have hm1 : 1 ≤ m := by omega
    have hm6 : m ≤ 65536 := by omega
    obtain ⟨t, ht⟩ : ∃ t : Nat, n % (m : Int) = t := ⟨(n % (m : Int)).toNat, (Int.toNat_of_nonneg (Int.emod_nonneg _ (by omega))).symm⟩
    have htm : t < m := by have := Int.emod_lt_of_pos n (b := (m : Int)) (by omega); omega
    have eqm : (D.q : Int) - 1 = m := by omega
    obtain ⟨v, hv⟩ : ∃ v, FFld.ppow hpk r t = v := ⟨_, rfl⟩
    have hP : Kept (∀ W, FldB D W b → Calls Try.prog 28 #[.pointer (some ⟨b, 0, none⟩), .int .i64 x, .int .i64 n] W (RB W (.tuple #[.int .i64 v, .int .i64 0]))) := ⟨fun W hf => by
      by_cases hn0 : n = 0
      · subst hn0
        have ht0 : t = 0 := by simp at ht; omega
        subst ht0
        rw [FFld.ppow_zero hpk r hrq] at hv
        subst hv
        exact (fpow_zero x W hf x0 x1 r HR.out).mono fun e w' ⟨h1, h2⟩ => ⟨h1 ▸ Below.refl _ _, h2⟩
      · have := fpow_any HD.out x n W hf x0 x1 r HR.out hrq hr0 hn0 t (by rw [eqm]; exact ht)
        rw [hv] at this
        exact this⟩
    have hL := Kept.mk (fun W (hf : FldB D W b) => flog_any x W hf x0 x1 r l HR.out hrq hr0 hl hla)
    have hRP := Kept.mk (fun W => rpow_any D.q D.p D.k D.m r t W hpk hrq (q_q HD.out) (md_ok HD.out) (by omega))
    rw [hv] at hRP
    have hRL := Kept.mk (fun W => rlogr_any HD.out r l W hl hla)
    have et : (wrap64 (n.tmod m + m)).tmod m = t := by rw [tmod_in n m (by omega) (by omega), ht]
    have et2 : wrap64 (n.tmod m + m) = n.tmod m + m := by
      have h1 := Int.tmod_lt_of_pos n (show 0 < (m : Int) by omega)
      have h2 : -(m : Int) < n.tmod m := by
        have := Int.tmod_lt_of_pos (-n) (show 0 < (m : Int) by omega)
        rw [Int.neg_tmod] at this
        omega
      exact w64 (by omega) (by omega)
    have et3 : (n.tmod m + m).tmod m = t := by rw [← et2]; exact et
    have HET := Kept.mk et
    have HET3 := Kept.mk et3
    have ht6 : t ≤ 65536 := by omega
    clear hl hla hv hpk htm ht hrq hm
    go_wp2_with fail
    refine (hP.out _ HF.out).mono ?_
    rintro e w3 ⟨hb3, rfl⟩
    replace HF := Kept.mk (HF.out.below hb3)
    replace HB := Kept.mk (bstep HB.out hb3)
    have j0 := belowCell hb3 j0
    have j1 := belowCell hb3 j1
    have j2 := belowCell hb3 j2
    have j3 := belowCell hb3 j3
    clear hb3
    go_wp2_with fail
    refine (hL.out _ HF.out).mono ?_
    rintro e w4 ⟨hb4, rfl⟩
    replace HB := Kept.mk (bstep HB.out hb4)
    have j0 := belowCell hb4 j0
    have j1 := belowCell hb4 j1
    have j2 := belowCell hb4 j2
    have j3 := belowCell hb4 j3
    clear hb4
    go_wp2_with fail
    refine (hRP.out _).mono ?_
    rintro e w5 ⟨hb5, rfl⟩
    replace HB := Kept.mk (bstep HB.out hb5)
    have j0 := belowCell hb5 j0
    have j1 := belowCell hb5 j1
    have j2 := belowCell hb5 j2
    have j3 := belowCell hb5 j3
    clear hb5
    go_wp2_with fail
    refine (hRL.out _).mono ?_
    rintro e w6 ⟨hb6, rfl⟩
    replace HB := Kept.mk (bstep HB.out hb6)
    clear hb6
    go_wp2_with fail
    refine (awake_any _).mono ?_
    rintro e w7 ⟨hb7, rfl⟩
    replace HB := Kept.mk (bstep HB.out hb7)
    clear hb7
    go_wp2
    go_ret
    exact ⟨HB.out, rfl⟩
end Go.Proofs.Ytfhhnfpapgfnmaa
