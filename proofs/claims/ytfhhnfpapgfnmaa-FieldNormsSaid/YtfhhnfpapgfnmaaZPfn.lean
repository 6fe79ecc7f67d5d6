/-
  Texts of the proof, merged by program: Pfn.
-/
import Derived.Test.YtfhhnfpapgfnmaaZRcm
import Derived.Test.YtfhhnfpapgfnmaaZChk
import Derived.Test.YtfhhnfpapgfnmaaZRtd
set_option linter.unusedVariables false
set_option linter.unusedSimpArgs false
namespace Go.Proofs.Ytfhhnfpapgfnmaa
open Go Go.RowKit Go.Deep
open FFld (ints)
theorem cErr_poly {D : FFld.FD} {l : List Nat} (h : ∀ a ∈ l, a < D.p ^ D.k) (ht : FFld.Tz l) (hl : l.length ≤ 200) : cErr D (ints l) = 0 := by
  unfold cErr
  rw [FFld.ints_len, if_neg (by omega), if_pos]
  constructor
  · unfold elsB
    rw [List.all_eq_true]
    intro x hx
    unfold FFld.ints at hx
    obtain ⟨a, ha, rfl⟩ := List.mem_map.1 hx
    have := h a ha
    rw [decide_eq_true_eq]
    unfold FFld.FD.q
    omega
  · unfold zlast
    rw [FFld.ints_len]
    rcases ht with h0 | h0
    · rw [h0]; rfl
    · rw [FFld.ints_get]
      have : decide (((l[l.length - 1]?.getD 0 : Nat) : Int) = 0) = false := by
        rw [decide_eq_false_iff_not]
        omega
      rw [this, Bool.and_false]
section
variable {D : FFld.FD} {b : Nat} (vp vq : Value) (pl ql : List Nat) (w : World) (hf : FldB D w b) (hp : Sl .i64 w vp (ints pl)) (hq : Sl .i64 w vq (ints ql)) (h1 : cErr D (ints pl) = 0) (h2 : cErr D (ints ql) = 0)
include hf hp hq h1 h2
set_option maxRecDepth 20000 in
set_option maxHeartbeats 2000000 in
theorem both_any : Calls Try.prog 93 #[.pointer (some ⟨b, 0, none⟩), vp, vq] w (fun e w' => w = w' ∧ e = .returned (.int .i64 0)) := by
  have H1 := Kept.mk (fcheck_any vp (ints pl) w hf hp)
  have H2 := Kept.mk (fcheck_any vq (ints ql) w hf hq)
  rw [h1] at H1
  rw [h2] at H2
  clear hf hp hq h1 h2
  go_enter Try.func93, Try.ntmps93
  go_wp2_with fail
  refine H1.out.mono ?_
  rintro e w1 ⟨rfl, rfl⟩
  go_wp2_with fail
  refine H2.out.mono ?_
  rintro e w1 ⟨rfl, rfl⟩
  go_wp2
  go_ret
  exact ⟨rfl, rfl⟩
set_option maxRecDepth 20000 in
set_option maxHeartbeats 2000000 in
theorem fpproduct_any (hD : D.Ok) (hpq : ∀ a ∈ pl, a < D.p ^ D.k) (hqq : ∀ a ∈ ql, a < D.p ^ D.k) (hpl : pl.length ≤ 100000) (hqll : ql.length ≤ 100000) :
    Calls Try.prog 32 #[.pointer (some ⟨b, 0, none⟩), vp, vq] w (fun e w' => Below w.heap.size w w' ∧ ∃ v, e = .returned (.tuple #[v, .int .i64 0]) ∧ Sl .i64 w' v (ints (FFld.mulL D pl ql))) := by
  have HB := Kept.mk (both_any vp vq pl ql w hf hp hq h1 h2)
  have HM := Kept.mk (multiply_any hD vp vq pl ql w hf hp hq hpq hqq hpl hqll)
  clear hf hp hq h1 h2 hpq hqq
  go_enter Try.func32, Try.ntmps32
  go_wp2_with fail
  refine HB.out.mono ?_
  rintro e w1 ⟨rfl, rfl⟩
  go_wp2_with fail
  refine HM.out.mono ?_
  rintro e w2 ⟨hb2, v, rfl, hs2⟩
  have HB2 := Kept.mk hb2
  have HS2 := Kept.mk hs2
  clear hb2 hs2
  go_wp2
  go_ret2
  exact ⟨HB2.out, _, rfl, HS2.out⟩
set_option maxRecDepth 20000 in
set_option maxHeartbeats 2000000 in
theorem fcommon_any (hD : D.Ok) (ho : FFld.CmOk D 1000 (pl, ql)) :
    Calls Try.prog 34 #[.pointer (some ⟨b, 0, none⟩), vp, vq] w (fun e w' => Below w.heap.size w w' ∧ ∃ v o, e = .returned (.tuple #[v, .int .i64 0]) ∧ Sl .i64 w' v (ints o) ∧ FFld.CmnIs D hD.pre.pk pl ql o) := by
  have HB := Kept.mk (both_any vp vq pl ql w hf hp hq h1 h2)
  have HM := Kept.mk (common_any hD vp vq pl ql w hf hp hq ho)
  clear hf hp hq h1 h2 ho
  go_enter Try.func34, Try.ntmps34
  go_wp2_with fail
  refine HB.out.mono ?_
  rintro e w1 ⟨rfl, rfl⟩
  go_wp2_with fail
  refine HM.out.mono ?_
  rintro e w2 ⟨hb2, v, o, rfl, hs2, hc2⟩
  have HB2 := Kept.mk hb2
  have HS2 := Kept.mk hs2
  have HC2 := Kept.mk hc2
  clear hb2 hs2 hc2
  go_wp2
  go_ret2
  exact ⟨HB2.out, _, _, rfl, HS2.out, HC2.out⟩
set_option maxRecDepth 20000 in
set_option maxHeartbeats 2000000 in
theorem fpdivide_any (hD : D.Ok) (hpq : ∀ a ∈ pl, a < D.p ^ D.k) (hqq : ∀ a ∈ ql, a < D.p ^ D.k) (h0 : 0 < ql.length) (ht : FFld.Tz ql) (hpl : pl.length ≤ 100000) (hqll : ql.length ≤ 100000) :
    Calls Try.prog 33 #[.pointer (some ⟨b, 0, none⟩), vp, vq] w (fun e w' => Below w.heap.size w w' ∧ ∃ v v2, e = .returned (.tuple #[v, v2, .int .i64 0]) ∧ Sl .i64 w' v (ints (FFld.quoF D ql (FFld.invT D hD.pre.pk ql) pl)) ∧ Sl .i64 w' v2 (ints (FFld.rstF D ql (FFld.invT D hD.pre.pk ql) pl))) := by
  have HB := Kept.mk (both_any vp vq pl ql w hf hp hq h1 h2)
  have HM := Kept.mk (divide_any hD vp vq pl ql w hf hp hq hpq hqq h0 (ht.top (by omega)) hpl hqll)
  obtain ⟨aq, cq, hvq, hcq, hmq⟩ := hq.form
  subst hvq
  rw [FFld.ints_len] at HB HM ⊢
  obtain ⟨nq, hnq⟩ : ∃ n, ql.length = n := ⟨_, rfl⟩
  have HDE := Kept.mk (fun qs rs inv h => FFld.deRet_eq (D := D) (ql := ql) (pl := pl) (qs := qs) (rs := rs) (inv := inv) h0 h)
  rw [hnq] at HB h0 ⊢
  have HM2 : Kept (Calls Try.prog 95 #[.pointer (some ⟨b, 0, none⟩), vp, .slice aq nq cq] w (DeRet D ql (FFld.invT D hD.pre.pk ql) pl w)) := ⟨by have := HM.out; rw [hnq] at this; unfold FFld.invT; rw [hnq]; exact this⟩
  have e0 : ((nq : Int) == 0) = false := by rw [beq_eq_false_iff_ne]; omega
  clear hf hp hq h1 h2 hpq hqq hnq HM hcq ht
  go_enter Try.func33, Try.ntmps33
  go_wp2_with fail
  refine HB.out.mono ?_
  rintro e w1 ⟨rfl, rfl⟩
  go_wp2_with fail
  refine HM2.out.mono ?_
  rintro e w2 ⟨hb2, v, v2, qs, rs, rfl, hs2, hs3, hc2⟩
  obtain ⟨e1, e2⟩ := HDE.out _ _ _ hc2
  rw [e1] at hs2
  rw [e2] at hs3
  have HB2 := Kept.mk hb2
  have HS2 := Kept.mk hs2
  have HS3 := Kept.mk hs3
  clear hb2 hs2 hs3 hc2 e1 e2
  go_wp2
  go_ret3
  exact ⟨HB2.out, _, _, rfl, HS2.out, HS3.out⟩
set_option maxRecDepth 20000 in
set_option maxHeartbeats 2000000 in
theorem fpdivide_zero (h0 : ql.length = 0) :
    Calls Try.prog 33 #[.pointer (some ⟨b, 0, none⟩), vp, vq] w (fun e w' => w = w' ∧ e = .returned (.tuple #[.slice none 0 0, .slice none 0 0, .int .i64 6])) := by
  have HB := Kept.mk (both_any vp vq pl ql w hf hp hq h1 h2)
  obtain ⟨aq, cq, hvq, hcq, hmq⟩ := hq.form
  subst hvq
  rw [FFld.ints_len, h0] at HB ⊢
  clear hf hp hq h1 h2 hcq
  go_enter Try.func33, Try.ntmps33
  go_wp2_with fail
  refine HB.out.mono ?_
  rintro e w1 ⟨rfl, rfl⟩
  go_wp2
  go_ret3
  exact ⟨rfl, rfl⟩
end
end Go.Proofs.Ytfhhnfpapgfnmaa
