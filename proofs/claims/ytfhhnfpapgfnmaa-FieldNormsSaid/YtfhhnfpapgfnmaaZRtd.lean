/-
  Texts of the proof, merged by program: Rtd.
-/
import Derived.Test.YtfhhnfpapgfnmaaZ16
set_option linter.unusedVariables false
set_option linter.unusedSimpArgs false
/-! The product of two polynomials. -/
namespace Go.Proofs.Ytfhhnfpapgfnmaa
open Go Go.RowKit Go.Deep
namespace FFld
/-- The first i coefficients of pl times ql. -/
def mulF (D : FD) (pl ql : List Nat) : Nat → List Nat
  | 0 => List.replicate (pl.length + ql.length - 1) 0
  | i + 1 => addm D (mulF D pl ql i) i ql (pl[i]?.getD 0)
def mulL (D : FD) (pl ql : List Nat) : List Nat := if pl.length = 0 ∨ ql.length = 0 then [] else mulF D pl ql pl.length
theorem mulF_len (D : FD) (pl ql : List Nat) (i : Nat) : (mulF D pl ql i).length = pl.length + ql.length - 1 := by
  induction i with
  | zero => simp [mulF]
  | succ i ih => simp only [mulF]; rw [addm_len, ih]
theorem mulF_lt {D : FD} (hk : PK D.p D.k D.m) (pl ql : List Nat) (i : Nat) : ∀ a ∈ mulF D pl ql i, a < D.p ^ D.k := by
  induction i with
  | zero =>
    intro a ha
    rw [(List.mem_replicate.1 ha).2]
    exact Nat.pow_pos hk.p0
  | succ i ih => exact addmF_lt hk _ _ _ _ ih
theorem mulL_lt {D : FD} (hk : PK D.p D.k D.m) (pl ql : List Nat) : ∀ a ∈ mulL D pl ql, a < D.p ^ D.k := by
  unfold mulL
  by_cases h : pl.length = 0 ∨ ql.length = 0
  · rw [if_pos h]; intro a ha; cases ha
  · rw [if_neg h]; exact mulF_lt hk pl ql _
end FFld
open FFld (ints)
set_option maxRecDepth 20000 in
set_option maxHeartbeats 4000000 in
theorem multiply_any {D : FFld.FD} {b : Nat} (hD : D.Ok) (vp vq : Value) (pl ql : List Nat) (w : World) (hf : FldB D w b) (hp : Sl .i64 w vp (ints pl)) (hq : Sl .i64 w vq (ints ql)) (hpq : ∀ a ∈ pl, a < D.p ^ D.k) (hqq : ∀ a ∈ ql, a < D.p ^ D.k) (hpl : pl.length ≤ 100000) (hqll : ql.length ≤ 100000) :
    Calls Try.prog 94 #[.pointer (some ⟨b, 0, none⟩), vp, vq] w (fun e w' => Below w.heap.size w w' ∧ ∃ v, e = .returned v ∧ Sl .i64 w' v (ints (FFld.mulL D pl ql))) := by
  obtain ⟨ap, cp, rfl, hcp, hmp⟩ := hp.form
  obtain ⟨aq, cq, rfl, hcq, hmq⟩ := hq.form
  rw [FFld.ints_len] at hcp hcq
  have HPS := Kept.mk hp
  have HQS := Kept.mk hq
  have HF := Kept.mk hf
  have HPQ := Kept.mk hpq
  have HQQ := Kept.mk hqq
  clear hp hq hf hpq hqq
  rw [FFld.ints_len, FFld.ints_len] at *
  by_cases h0 : pl.length = 0 ∨ ql.length = 0
  · have hL : FFld.mulL D pl ql = [] := by unfold FFld.mulL; rw [if_pos h0]
    have HS : Kept (Sl .i64 w (.slice none 0 0) (ints [])) := ⟨(Mine.nil 3 .i64 0 w).sl⟩
    rw [hL]
    by_cases h1 : pl.length = 0
    · have e1 : ((pl.length : Int) == 0) = true := by rw [h1]; rfl
      go_enter Try.func94, Try.ntmps94
      go_wp2
      go_ret
      exact ⟨Below.refl _ _, _, rfl, HS.out⟩
    · have h2 : ql.length = 0 := by omega
      have e1 : ((pl.length : Int) == 0) = false := by rw [beq_eq_false_iff_ne]; omega
      have e2 : ((ql.length : Int) == 0) = true := by rw [h2]; rfl
      go_enter Try.func94, Try.ntmps94
      go_wp2
      go_ret
      exact ⟨Below.refl _ _, _, rfl, HS.out⟩
  · have hL : FFld.mulL D pl ql = FFld.mulF D pl ql pl.length := by unfold FFld.mulL; rw [if_neg h0]
    rw [hL]
    have e1 : ((pl.length : Int) == 0) = false := by rw [beq_eq_false_iff_ne]; omega
    have e2 : ((ql.length : Int) == 0) = false := by rw [beq_eq_false_iff_ne]; omega
    obtain ⟨n, hn⟩ : ∃ n, pl.length + ql.length - 1 = n := ⟨_, rfl⟩
    have en : (pl.length : Int) + ql.length - 1 = n := by omega
    have HN : Kept (∀ i, (FFld.mulF D pl ql i).length = n) := ⟨fun i => by rw [FFld.mulF_len, hn]⟩
    have hlen : pl.length + ql.length = n + 1 := by omega
    have hn6 : n ≤ 200000 := by omega
    have HZ : Kept (FFld.mulF D pl ql 0 = List.replicate n 0) := ⟨by simp only [FFld.mulF]; rw [hn]⟩
    obtain ⟨np, hnp⟩ : ∃ np, pl.length = np := ⟨_, rfl⟩
    obtain ⟨nq, hnq⟩ : ∃ nq, ql.length = nq := ⟨_, rfl⟩
    have HNP := Kept.mk hnp
    have HNQ := Kept.mk hnq
    have HCP := Kept.mk (HPS.out.cells (Nat.le_refl _))
    rw [hnp] at hcp hpl e1 en hlen h0 ⊢
    rw [hnq] at hcq hqll e2 en hlen h0
    rw [hnq]
    clear hL hn hnp hnq
    go_enter Try.func94, Try.ntmps94
    go_wp2_with (at_make; refine wpList_make_zeros _ rfl _ _ 34 rfl 3 .i64 Try.underlying34 info_i64 _ _ n rfl rfl (by omega) (by omega) (by omega) ?_)
    intro w3 hrow hbel
    rw [FFld.ints_rep] at hrow
    have HW3 := Kept.mk hrow.wv
    have HB3 := Kept.mk hbel
    clear hrow hbel
    go_wp2
    go_loopw [27] (fun iv wr => ∃ i : Nat, i ≤ np ∧ iv = .int .i64 i ∧ Kept (Wv wr w.heap.size (FFld.mulF D pl ql i)) ∧ Kept (Below w.heap.size w wr)) (fun iv _ => np - (intOf iv).toNat)
    case atStart => exact ⟨0, Nat.zero_le _, rfl, ⟨by rw [HZ.out]; exact HW3.out⟩, HB3⟩
    case round =>
      obtain ⟨i, hi, rfl, hwv, hbl⟩ := hrel
      by_cases hlt : i < np
      · obtain ⟨bp, op, rfl, hcell⟩ := HCP.out _ hbl.out i (by rw [HNP.out]; exact hlt)
        obtain ⟨c, hc⟩ : ∃ c, pl[i]?.getD 0 = c := ⟨_, rfl⟩
        have hcq2 : c < D.p ^ D.k := by rw [← hc]; exact FFld.getD_lt (Nat.pow_pos hD.pre.pk.p0) HPQ.out i
        rw [hc] at hcell
        obtain ⟨R, hR⟩ : ∃ R, FFld.mulF D pl ql i = R := ⟨_, rfl⟩
        have hRl : R.length = n := by rw [← hR]; exact HN.out i
        have HRQ : Kept (∀ a ∈ R, a < D.p ^ D.k) := ⟨by rw [← hR]; exact FFld.mulF_lt hD.pre.pk pl ql i⟩
        have HNX : Kept (FFld.mulF D pl ql (i + 1) = FFld.addm D R i ql c) := ⟨by simp only [FFld.mulF]; rw [hR, hc]⟩
        rw [hR] at hwv
        have hAm := Kept.mk (fun (n' cc : Nat) (hn' : ql.length ≤ n') => addMultiple_any (s := i) (n := n') (cc := cc) (cap := cq) w wr HF.out hbl.out (Nat.le_refl _) R hwv.out HRQ.out ql (HQS.out.qc hbl.out (Nat.le_refl _)) HQQ.out (by rw [hRl, HNQ.out]; omega) hn' c hcq2 (by rw [HNQ.out]; omega))
        rw [HNQ.out] at hAm
        have hs1 : (i : Int) ≤ (n : Int) := by omega
        have hs2 : i ≤ n := by omega
        have hs3 : (0 : Int) ≤ (i : Int) := by omega
        have hs6 : ((i : Int) < 0) = False := by simp
        clear hc hR hcq2
        go_wp2_with fail
        refine (hAm.out _ _ (by omega)).mono ?_
        rintro e w7 ⟨rfl, hg7, hw7⟩
        have HW7 := Kept.mk hw7
        have HB7 := Kept.mk (belowGrow hg7 hbl.out (Nat.le_refl _))
        clear hg7 hw7 hAm
        go_wp2
        go_roundw
        case rel => exact ⟨i + 1, by omega, by go_num, ⟨by rw [HNX.out]; exact HW7.out⟩, HB7⟩
        case measure => simp [intOf] <;> omega
      · obtain rfl : i = np := by omega
        have HS := Kept.mk (hwv.out.sl (n := n) (c := n) (HN.out i).symm (Nat.le_refl _) (by unfold maxLen; omega))
        go_wp2
        go_ret
        exact ⟨hbl.out, _, rfl, HS.out⟩
end Go.Proofs.Ytfhhnfpapgfnmaa
