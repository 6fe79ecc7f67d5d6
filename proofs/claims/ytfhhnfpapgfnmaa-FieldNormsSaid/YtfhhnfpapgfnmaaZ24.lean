/-
  Texts of the proof, merged by program: Mo Mq.
-/
import Derived.Test.YtfhhnfpapgfnmaaZ23
import Derived.Test.YtfhhnfpapgfnmaaZ18
set_option linter.unusedVariables false
set_option linter.unusedSimpArgs false
namespace Go.Proofs.Ytfhhnfpapgfnmaa
open Go Go.RowKit Go.Deep
open FFld (ints)
/-- The sum of the products of the first i elements of two lists. -/
def sopF (D : FFld.FD) (al bl : List Nat) : Nat → Nat
  | 0 => 0
  | i + 1 => FFld.padd D.p D.k (sopF D al bl i) (FFld.pmul D.p D.k D.m (al[i]?.getD 0) D.k (bl[i]?.getD 0))
theorem sopF_lt {D : FFld.FD} (h : FFld.PK D.p D.k D.m) (al bl : List Nat) (i : Nat) : sopF D al bl i < D.p ^ D.k := by
  cases i with
  | zero => exact Nat.pow_pos h.p0
  | succ i => exact FFld.padd_lt h _ _
set_option maxRecDepth 20000 in
set_option maxHeartbeats 4000000 in
theorem sop_any {D : FFld.FD} {b : Nat} (va vb : Value) (al bl : List Nat) (w : World) (hf : FldB D w b) (ha : Sl .i64 w va (ints al)) (hb : Sl .i64 w vb (ints bl)) (hl : al.length ≤ bl.length) (haq : ∀ a ∈ al, a < D.p ^ D.k) (hbq : ∀ a ∈ bl, a < D.p ^ D.k) (hn : al.length ≤ 100000) :
    Calls Try.prog 112 #[.pointer (some ⟨b, 0, none⟩), va, vb] w (RB w (.int .i64 (sopF D al bl al.length : Nat))) := by
  obtain ⟨h, T, x, fs, fp, fw, ms, ml, hbb, ho, _, _⟩ := hf.open
  obtain ⟨c0, _⟩ := six_cells hbb
  have hpk := h.pre.pk
  have hbl' : b < w.heap.size := hf.lt
  have HS := Kept.mk ho.sum
  have HP := Kept.mk ho.product
  have hms := ho.ms
  have hcs := ho.cs
  have hmp := ho.mp
  have hcp := ho.cp
  obtain ⟨a1, k1, rfl, hk1, hm1⟩ := ha.form
  obtain ⟨a2, k2, rfl, hk2, hm2⟩ := hb.form
  have HC1 := Kept.mk (ha.cells (Nat.le_refl _))
  have HC2 := Kept.mk (hb.cells (Nat.le_refl _))
  have HA := Kept.mk (FFld.getD_lt (Nat.pow_pos hpk.p0) haq)
  have HB := Kept.mk (FFld.getD_lt (Nat.pow_pos hpk.p0) hbq)
  have HL := Kept.mk (fun i => sopF_lt hpk al bl i)
  have HM := Kept.mk (fun a c => FFld.pmul_lt hpk a D.k c)
  rw [FFld.ints_len] at hk1 hk2 ⊢
  rw [FFld.ints_len]
  obtain ⟨n, hN⟩ : ∃ n, al.length = n := ⟨_, rfl⟩
  obtain ⟨n2, hN2⟩ : ∃ n, bl.length = n := ⟨_, rfl⟩
  rw [hN] at hk1 hl hn ⊢
  rw [hN2] at hk2 hl ⊢
  have HN := Kept.mk hN
  have HN2 := Kept.mk hN2
  clear ha hb hbb ho hf haq hbq hpk hN hN2
  go_enter Try.func112, Try.ntmps112
  go_wp2
  go_loopw [11, 7] (fun iv tv wr => ∃ (i t : Nat), i ≤ n ∧ iv = .int .i64 i ∧ tv = .int .i64 t ∧ Kept (sopF D al bl i = t) ∧ Kept (Below w.heap.size w wr)) (fun iv _ _ => n - (intOf iv).toNat)
  case atStart => exact ⟨0, 0, Nat.zero_le _, rfl, rfl, ⟨rfl⟩, ⟨Below.refl _ _⟩⟩
  case round =>
    obtain ⟨i, t, hin, rfl, rfl, ht, hbx⟩ := hrel
    by_cases hlt : i < n
    · obtain ⟨g1, o1, rfl, u1⟩ := HC1.out _ hbx.out i (by rw [HN.out]; exact hlt)
      obtain ⟨g2, o2, rfl, u2⟩ := HC2.out _ hbx.out i (by rw [HN2.out]; omega)
      obtain ⟨y, hy⟩ : ∃ y, al[i]?.getD 0 = y := ⟨_, rfl⟩
      obtain ⟨z, hz⟩ : ∃ y, bl[i]?.getD 0 = y := ⟨_, rfl⟩
      have hyq := HA.out i
      have hzq := HB.out i
      rw [hy] at u1 hyq
      rw [hz] at u2 hzq
      obtain ⟨v, hv⟩ : ∃ v, FFld.pmul D.p D.k D.m y D.k z = v := ⟨_, rfl⟩
      obtain ⟨s, hs⟩ : ∃ s, FFld.padd D.p D.k t v = s := ⟨_, rfl⟩
      have HNX : Kept (sopF D al bl (i + 1) = s) := ⟨by simp only [sopF]; rw [ht.out, hy, hz, hv, hs]⟩
      have hvq : v < D.p ^ D.k := by rw [← hv]; exact HM.out _ _
      have htq : t < D.p ^ D.k := by rw [← ht.out]; exact HL.out _
      have hP := Kept.mk (fun W (hW : Below w.heap.size w W) => HP.out W hW y z hyq hzq)
      have hS := Kept.mk (fun W (hW : Below w.heap.size w W) => HS.out W hW t v htq hvq)
      rw [hv] at hP
      rw [hs] at hS
      have f0 := (hbx.out.cell (p := ⟨b, 0, none⟩) hbl').trans c0
      have hin2 : i < n2 := by omega
      have hin3 : (i : Int) < (n2 : Int) := by omega
      clear hy hz hv hs hyq hzq hvq htq
      go_wp2
      go_region_held3 (fun w' => w'.cell? ⟨b, 0, none⟩ = some (.iface T x) ∧ w'.cell? ⟨g1, o1 + i, none⟩ = some (.int .i64 y) ∧ w'.cell? ⟨g2, o2 + i, none⟩ = some (.int .i64 z))
        (first | exact ⟨f0, u1, u2⟩ | exact ⟨k0, k1, k2⟩ | exact ⟨l0, l1, l2⟩ | go_keep)
        ((first
          | ((with_reducible refine (hP.out _ ?_).mono ?_); (exact (by first | exact hbx.out | exact hbx.out.drew)); rintro e w4 ⟨hb4, rfl⟩; have HB4 := Kept.mk (bstep (show Below w.heap.size w _ from (by first | exact hbx.out | exact hbx.out.drew)) hb4); have HR4 : Kept (Below wr.heap.size wr w4) := ⟨by first | exact hb4 | exact (Below.refl _ _).drew.trans hb4⟩; have k0 := belowCell HR4.out f0; have k1 := belowCell HR4.out u1; have k2 := belowCell HR4.out u2; clear hb4)
          | ((with_reducible refine (hS.out _ HB4.out).mono ?_); rintro e w5 ⟨hb5, rfl⟩; have HB5 := Kept.mk (bstep HB4.out hb5); have l0 := belowCell hb5 k0; have l1 := belowCell hb5 k1; have l2 := belowCell hb5 k2; clear hb5)))
      go_wp2
      go_roundw
      case rel => exact ⟨i + 1, s, by omega, by go_num, rfl, HNX, HB5⟩
      case measure => simp [intOf] <;> omega
    · obtain rfl : i = n := by omega
      go_wp2
      go_ret
      exact ⟨hbx.out, congrArg (fun n : Nat => Ending.returned (.int .i64 (n : Int))) ht.out.symm⟩
/-- All numbers are elements. -/
def elsB (D : FFld.FD) (xs : List Int) : Bool := xs.all fun a => decide (0 ≤ a ∧ a < D.q)
set_option maxRecDepth 20000 in
set_option maxHeartbeats 2000000 in
theorem areElements_any {D : FFld.FD} {b : Nat} (v : Value) (xs : List Int) (w : World) (hf : FldB D w b) (h : Sl .i64 w v xs) :
    Calls Try.prog 97 #[.pointer (some ⟨b, 0, none⟩), v] w (fun e w' => w = w' ∧ e = .returned (.bool (elsB D xs))) := by
  obtain ⟨ao, cap, rfl, hcap, hmax, hc⟩ := h
  obtain ⟨n, hN⟩ : ∃ n, xs.length = n := ⟨_, rfl⟩
  have HI := Kept.mk (fun a => isElement_any a w hf)
  have HC := Kept.mk hc
  rw [hN] at hcap ⊢
  have HN := Kept.mk hN
  unfold maxLen at hmax
  clear hf hc hN
  go_enter Try.func97, Try.ntmps97
  go_wp2
  go_loopw [9] (fun iv wr => ∃ (i : Nat), i ≤ n ∧ iv = .int .i64 i ∧ Kept (elsB D (xs.take i) = true) ∧ w = wr) (fun iv _ => n - (intOf iv).toNat)
  case atStart => exact ⟨0, Nat.zero_le _, rfl, ⟨rfl⟩, rfl⟩
  case round =>
    obtain ⟨i, hin, rfl, hat, rfl⟩ := hrel
    by_cases hlt : i < n
    · obtain ⟨g, o, rfl, hg, hcell⟩ := HC.out i (by rw [HN.out]; exact hlt)
      obtain ⟨a, ha⟩ : ∃ a, xs[i]?.getD 0 = a := ⟨_, rfl⟩
      rw [ha] at hcell
      have hI := Kept.mk (HI.out a)
      have hT : xs.take (i + 1) = xs.take i ++ [a] := by
        rw [List.take_add_one]
        congr 1
        rw [← ha, List.getElem?_eq_getElem (by rw [HN.out]; exact hlt)]
        rfl
      obtain ⟨t, ht⟩ : ∃ t, decide (0 ≤ a ∧ a < (D.q : Int)) = t := ⟨_, rfl⟩
      rw [ht] at hI
      have HT : Kept (elsB D (xs.take (i + 1)) = t) := ⟨by
        have := hat.out
        unfold elsB at this ⊢
        rw [hT, List.all_append, this]
        simp only [List.all_cons, List.all_nil, Bool.and_true, Bool.true_and]
        exact ht⟩
      clear ha hT ht
      cases t with
      | true =>
        go_wp2_with fail
        refine hI.out.mono ?_
        rintro e w2 ⟨rfl, rfl⟩
        go_wp2
        go_roundw
        case rel => exact ⟨i + 1, by omega, by go_num, HT, trivial⟩
        case measure => simp [intOf] <;> omega
      | false =>
        have HE : Kept (elsB D xs = false) := ⟨by
          have h1 := HT.out
          unfold elsB at h1 ⊢
          rw [← List.take_append_drop (i + 1) xs, List.all_append, h1]
          rfl⟩
        go_wp2_with fail
        refine hI.out.mono ?_
        rintro e w2 ⟨rfl, rfl⟩
        go_wp2
        go_ret
        exact ⟨rfl, by rw [HE.out]; rfl⟩
    · obtain rfl : i = n := by omega
      have HE : Kept (elsB D xs = true) := ⟨by have := hat.out; rw [← HN.out, List.take_length] at this; exact this⟩
      go_wp2
      go_ret
      exact ⟨rfl, by rw [HE.out]; rfl⟩
end Go.Proofs.Ytfhhnfpapgfnmaa

set_option linter.unusedVariables false
set_option linter.unusedSimpArgs false
namespace Go.Proofs.Ytfhhnfpapgfnmaa
open Go Go.RowKit Go.Deep
open FFld (ints)
def rlen (rows : List (List Int)) (i : Nat) : Nat := (rows[i]?.getD []).length
/-- The error of a matrix. -/
def mErr (D : FFld.FD) (rows : List (List Int)) : Nat :=
  if rows.length = 0 then 0 else if 64 < rows.length ∨ 64 < rlen rows 0 then 2 else if rows.all (fun r => r.length == rlen rows 0) then (if rows.all (elsB D) then 0 else 1) else 7
theorem all_take {α : Type} {f : α → Bool} {l : List α} {i : Nat} (d : α) (h : (l.take i).all f = true) (hi : i < l.length) : (l.take (i + 1)).all f = f (l[i]?.getD d) := by
  rw [List.take_add_one, List.all_append, h, List.getElem?_eq_getElem hi]
  simp
theorem all_false {α : Type} {f : α → Bool} {l : List α} {i : Nat} (h : (l.take i).all f = false) : l.all f = false := by
  rw [← List.take_append_drop i l, List.all_append, h]
  rfl
set_option maxRecDepth 20000 in
set_option maxHeartbeats 4000000 in
theorem checkMatrix_any {D : FFld.FD} {b : Nat} (rows : List (List Int)) (ao : Option Addr) (cap : Nat) (w : World) (hf : FldB D w b) (h : Sls w ao rows) (hcap : rows.length ≤ cap) (hmax : cap ≤ maxLen) :
    Calls Try.prog 103 #[.pointer (some ⟨b, 0, none⟩), .slice ao rows.length cap] w (fun e w' => w = w' ∧ e = .returned (.int .i64 (mErr D rows : Nat))) := by
  have HA := Kept.mk (fun v xs hs => areElements_any (D := D) (b := b) v xs w hf hs)
  have HS := Kept.mk h
  obtain ⟨n, hN⟩ : ∃ n, rows.length = n := ⟨_, rfl⟩
  rw [hN] at hcap ⊢
  have HN := Kept.mk hN
  unfold maxLen at hmax
  clear h hf hN
  by_cases h0 : n = 0
  · have HE : Kept (mErr D rows = 0) := ⟨by unfold mErr; rw [if_pos (by rw [HN.out]; exact h0)]⟩
    have e0 : ((n : Int) == 0) = true := by rw [h0]; rfl
    rw [HE.out]
    clear h0
    go_enter Try.func103, Try.ntmps103
    go_wp2
    go_ret
    exact ⟨rfl, rfl⟩
  · have e0 : ((n : Int) == 0) = false := by rw [beq_eq_false_iff_ne]; omega
    by_cases h64 : 64 < n
    · have HE : Kept (mErr D rows = 2) := ⟨by unfold mErr; rw [if_neg (by rw [HN.out]; exact h0), if_pos (by rw [HN.out]; exact .inl h64)]⟩
      have e1 : decide ((n : Int) > 64) = true := by simp; omega
      rw [HE.out]
      clear h0
      go_enter Try.func103, Try.ntmps103
      go_wp2
      go_ret
      exact ⟨rfl, rfl⟩
    · have e1 : decide ((n : Int) > 64) = false := by simp; omega
      obtain ⟨g, o, rv, rfl, hg, hcell, hsl⟩ := HS.out 0 (by rw [HN.out]; omega)
      obtain ⟨a0, c0, rfl, hc0, hm0⟩ := hsl.form
      obtain ⟨r0, hr0⟩ : ∃ r, (rows[0]?.getD []).length = r := ⟨_, rfl⟩
      rw [hr0] at hcell hc0
      have HR0 : Kept (rlen rows 0 = r0) := ⟨hr0⟩
      rw [Nat.add_zero] at hcell
      unfold maxLen at hm0
      have hn0 : 0 < n := by omega
      clear hsl hr0
      by_cases h65 : 64 < r0
      · have HE : Kept (mErr D rows = 2) := ⟨by unfold mErr; rw [if_neg (by rw [HN.out]; exact h0), if_pos (by rw [HR0.out]; exact .inr h65)]⟩
        have e2 : decide ((r0 : Int) > 64) = true := by simp; omega
        rw [HE.out]
        clear h0
        go_enter Try.func103, Try.ntmps103
        go_wp2
        go_ret
        exact ⟨rfl, rfl⟩
      · have e2 : decide ((r0 : Int) > 64) = false := by simp; omega
        have HE : Kept (mErr D rows = if rows.all (fun r => r.length == r0) then (if rows.all (elsB D) then 0 else 1) else 7) := ⟨by unfold mErr; rw [if_neg (by rw [HN.out]; exact h0), HR0.out, if_neg (by rw [HN.out]; omega)]⟩
        have hn64 : n ≤ 64 := by omega
        clear h0 h64 h65
        go_enter Try.func103, Try.ntmps103
        go_wp2
        go_loopw [29] (fun iv wr => ∃ (i : Nat), i ≤ n ∧ iv = .int .i64 i ∧ Kept ((rows.take i).all (fun r => r.length == r0) = true) ∧ w = wr) (fun iv _ => n - (intOf iv).toNat)
        case atStart => exact ⟨0, Nat.zero_le _, rfl, ⟨rfl⟩, rfl⟩
        case round =>
          obtain ⟨i, hin, rfl, hat, rfl⟩ := hrel
          by_cases hlt : i < n
          · obtain ⟨g', o', rv, ee, hg', hcell', hsl⟩ := HS.out i (by rw [HN.out]; exact hlt)
            simp only [Option.some.injEq, Addr.mk.injEq, and_true] at ee
            obtain ⟨rfl, rfl⟩ := ee
            obtain ⟨a1, c1, rfl, hc1, hm1⟩ := hsl.form
            obtain ⟨ri, hri⟩ : ∃ r, (rows[i]?.getD []).length = r := ⟨_, rfl⟩
            rw [hri] at hcell' hc1
            have hT := all_take (f := fun r : List Int => r.length == r0) [] hat.out (by rw [HN.out]; exact hlt)
            simp only [hri] at hT
            unfold maxLen at hm1
            by_cases heq : ri = r0
            · subst heq
              have HT : Kept ((rows.take (i + 1)).all (fun r => r.length == ri) = true) := ⟨by rw [hT]; simp⟩
              clear hT hri hsl
              go_wp2
              go_roundw
              case rel => exact ⟨i + 1, by omega, by go_num, HT, trivial⟩
              case measure => simp [intOf] <;> omega
            · have e3 : ((ri : Int) == (r0 : Int)) = false := by rw [beq_eq_false_iff_ne]; omega
              have HF : Kept (mErr D rows = 7) := ⟨by
                rw [HE.out, if_neg]
                rw [all_false (i := i + 1) (by rw [hT, beq_eq_false_iff_ne]; exact heq)]
                simp⟩
              clear hT hri hsl heq
              go_wp2
              go_ret
              exact ⟨rfl, by rw [HF.out]; rfl⟩
          · obtain rfl : i = n := by omega
            have HE2 : Kept (mErr D rows = if rows.all (elsB D) then 0 else 1) := ⟨by
              rw [HE.out, if_pos]
              have := hat.out
              rw [← HN.out, List.take_length] at this
              exact this⟩
            clear HE hat
            go_wp2
            go_loopw [43] (fun iv wr => ∃ (j : Nat), j ≤ i ∧ iv = .int .i64 j ∧ Kept ((rows.take j).all (elsB D) = true) ∧ w = wr) (fun iv _ => i - (intOf iv).toNat)
            case atStart => exact ⟨0, Nat.zero_le _, rfl, ⟨rfl⟩, rfl⟩
            case round =>
              obtain ⟨j, hjn, rfl, hat, rfl⟩ := hrel
              by_cases hlt2 : j < i
              · obtain ⟨g', o', rv, ee, hg', hcell', hsl⟩ := HS.out j (by rw [HN.out]; exact hlt2)
                simp only [Option.some.injEq, Addr.mk.injEq, and_true] at ee
                obtain ⟨rfl, rfl⟩ := ee
                have hT := all_take (f := elsB D) [] hat.out (by rw [HN.out]; exact hlt2)
                have hA := Kept.mk (HA.out _ _ hsl)
                obtain ⟨t, ht⟩ : ∃ t, elsB D (rows[j]?.getD []) = t := ⟨_, rfl⟩
                rw [ht] at hA hT
                have HT := Kept.mk hT
                clear hT ht hsl
                cases t with
                | true =>
                  go_wp2_with fail
                  refine hA.out.mono ?_
                  rintro e w2 ⟨rfl, rfl⟩
                  go_wp2
                  go_roundw
                  case rel => exact ⟨j + 1, by omega, by go_num, HT, trivial⟩
                  case measure => simp [intOf] <;> omega
                | false =>
                  have HF : Kept (mErr D rows = 1) := ⟨by rw [HE2.out, if_neg]; rw [all_false (i := j + 1) HT.out]; simp⟩
                  go_wp2_with fail
                  refine hA.out.mono ?_
                  rintro e w2 ⟨rfl, rfl⟩
                  go_wp2
                  go_ret
                  exact ⟨rfl, by rw [HF.out]; rfl⟩
              · obtain rfl : j = i := by omega
                have HF : Kept (mErr D rows = 0) := ⟨by rw [HE2.out, if_pos]; have := hat.out; rw [← HN.out, List.take_length] at this; exact this⟩
                go_wp2
                go_ret
                exact ⟨rfl, by rw [HF.out]; rfl⟩
/-- The error of equations. -/
def qErr (D : FFld.FD) (rows : List (List Int)) (bl : List Int) : Nat := if mErr D rows = 0 then (if bl.length = rows.length then (if elsB D bl then 0 else 1) else 7) else mErr D rows
theorem mErr_le (D : FFld.FD) (rows : List (List Int)) : mErr D rows ≤ 7 := by
  unfold mErr
  repeat' split
  all_goals omega
set_option maxRecDepth 20000 in
set_option maxHeartbeats 4000000 in
theorem checkEquations_any {D : FFld.FD} {b : Nat} (rows : List (List Int)) (ao : Option Addr) (cap : Nat) (vb : Value) (bl : List Int) (w : World) (hf : FldB D w b) (h : Sls w ao rows) (hcap : rows.length ≤ cap) (hmax : cap ≤ maxLen) (hb : Sl .i64 w vb bl) :
    Calls Try.prog 108 #[.pointer (some ⟨b, 0, none⟩), .slice ao rows.length cap, vb] w (fun e w' => w = w' ∧ e = .returned (.int .i64 (qErr D rows bl : Nat))) := by
  have HC := Kept.mk (checkMatrix_any rows ao cap w hf h hcap hmax)
  have HA := Kept.mk (areElements_any vb bl w hf hb)
  obtain ⟨ab, cb, rfl, hcb, hmb⟩ := hb.form
  obtain ⟨n, hN⟩ : ∃ n, rows.length = n := ⟨_, rfl⟩
  obtain ⟨m, hM⟩ : ∃ n, bl.length = n := ⟨_, rfl⟩
  have hE : qErr D rows bl = if mErr D rows = 0 then (if m = n then (if elsB D bl then 0 else 1) else 7) else mErr D rows := by unfold qErr; rw [hN, hM]
  have hle := mErr_le D rows
  obtain ⟨me, hme⟩ : ∃ k, mErr D rows = k := ⟨_, rfl⟩
  obtain ⟨t, ht⟩ : ∃ k, elsB D bl = k := ⟨_, rfl⟩
  rw [hme, ht] at hE
  rw [hN, hme] at HC
  rw [hM] at hcb HA ⊢
  rw [ht] at HA
  rw [hme] at hle
  rw [hN] at hcap ⊢
  unfold maxLen at hmax hmb
  clear hf h hb hN hM hme ht
  by_cases h0 : me = 0
  · subst h0
    rw [if_pos rfl] at hE
    have e0 : (((0 : Nat) : Int) == 0) = true := rfl
    by_cases hmn : m = n
    · rw [if_pos hmn] at hE
      have e1 : ((m : Int) == (n : Int)) = true := by rw [hmn]; simp
      rw [hE]
      clear hE hmn
      go_enter Try.func108, Try.ntmps108
      go_wp2_with fail
      refine HC.out.mono ?_
      rintro e w2 ⟨rfl, rfl⟩
      go_wp2_with fail
      refine HA.out.mono ?_
      rintro e w2 ⟨rfl, rfl⟩
      cases t
      · go_wp2
        go_ret
        exact ⟨rfl, rfl⟩
      · go_wp2
        go_ret
        exact ⟨rfl, rfl⟩
    · rw [if_neg hmn] at hE
      have e1 : ((m : Int) == (n : Int)) = false := by rw [beq_eq_false_iff_ne]; omega
      rw [hE]
      clear hE hmn
      go_enter Try.func108, Try.ntmps108
      go_wp2_with fail
      refine HC.out.mono ?_
      rintro e w2 ⟨rfl, rfl⟩
      go_wp2
      go_ret
      exact ⟨rfl, rfl⟩
  · rw [if_neg h0] at hE
    have e0 : ((me : Int) == 0) = false := by rw [beq_eq_false_iff_ne]; omega
    rw [hE]
    clear hE h0
    go_enter Try.func108, Try.ntmps108
    go_wp2_with fail
    refine HC.out.mono ?_
    rintro e w2 ⟨rfl, rfl⟩
    go_wp2
    go_ret
    exact ⟨rfl, rfl⟩
end Go.Proofs.Ytfhhnfpapgfnmaa
