/-
  Texts of the proof, merged by program: Rtc1 Rtc2 Rtc3.
-/
import Derived.Test.YtfhhnfpapgfnmaaZRtp
import Derived.Test.YtfhhnfpapgfnmaaZ19
set_option linter.unusedVariables false
set_option linter.unusedSimpArgs false
namespace Go.Proofs.Ytfhhnfpapgfnmaa
open Go Go.RowKit Go.Deep
open FFld (ints)
set_option maxRecDepth 20000 in
set_option maxHeartbeats 4000000 in
/-- The reference's conjugates. -/
theorem rconj_any {D : FFld.FD} (hD : D.Ok) (a : Nat) (w : World) (ha : a < D.p ^ D.k) :
    Calls Try.prog 116 #[rfv D.q D.p D.k D.m, .int .i64 a] w (CjRet D hD.pre.pk a w) := by
  have HX0 : Kept (Bxs w [rbox D.q D.p D.k D.m] (w.alloc (rbox D.q D.p D.k D.m))) := ⟨(Bxs.start w).alloc (by simp) _⟩
  have hq6 : D.p ^ D.k ≤ 65536 := hD.pre.small
  have hq6' : D.q ≤ 65536 := hq6
  have hp6 : D.p ≤ 65536 := hD.p6
  have HP := Kept.mk (fun W x (hx : x < D.p ^ D.k) => rpow_any D.q D.p D.k D.m x D.p W hD.pre.pk hx hq6 (md_ok hD) (by omega))
  have HL := Kept.mk (fun i => cjg_lt hD.pre.pk a ha i)
  have hk40 : D.k ≤ 40 := FFld.len_of_pow (Nat.pow_le_pow_left hD.pre.prime.1 _) (show D.p ^ D.k ≤ 1099511627776 by omega)
  clear ha
  go_enter Try.func116, Try.ntmps116
  obtain ⟨c0, c1, c2, c3⟩ := four_cells HX0.out.b0
  go_wp2
  go_loopw [1, 5, 6] (fun av ov iv wr => ∃ (i c : Nat) (l : List Nat), i ≤ D.k ∧ iv = .int .i64 i ∧ av = .int .i64 c ∧ Kept (cjg hD.pre.pk a i = c) ∧ l.length = i ∧ Kept (∀ j, j < i → l[j]?.getD 0 = cjg hD.pre.pk a j) ∧ Kept (Mine 3 .i64 (w.heap.size + 1) wr ov (ints l)) ∧ Kept (Bxs w [rbox D.q D.p D.k D.m] wr)) (fun _ _ iv _ => D.k - (intOf iv).toNat)
  case atStart => exact ⟨0, a, [], Nat.zero_le _, rfl, rfl, ⟨rfl⟩, rfl, ⟨fun j hj => by omega⟩, ⟨Mine.nil _ _ _ _⟩, HX0⟩
  case round =>
    clear c0 c1 c2 c3
    obtain ⟨i, c, l, hik, rfl, rfl, hc, hll, hlx, hm, hbx⟩ := hrel
    obtain ⟨c0, c1, c2, c3⟩ := four_cells hbx.out.b0
    have hcq : c < D.p ^ D.k := by rw [← hc.out]; exact HL.out i
    by_cases hlt : i < D.k
    · have HMa := Lib.hid (hm.out.alloc (.cells #[.int .i64 c] 3))
      have HNW := Lib.hid (new_one (K := .i64) (x := (c : Int)) (w := wr.alloc (.cells #[.int .i64 c] 3)) (b := wr.heap.size) (o := 0) (by exact (Row.new (E := 3) (K := .i64) wr [(c : Int)]).cell (i := 0) (by simp)))
      have HBB := Lib.hid (show w.heap.size + 1 ≤ (wr.alloc (.cells #[.int .i64 c] 3)).heap.size by have := hbx.out.l1; simp; omega)
      have H1 := Lib.hid (show ((ints l).length + [(c : Int)].length) * 8 ≤ 140737488355328 by rw [FFld.ints_len]; simp; omega)
      have H2 := Lib.hid (show (ints l).length + [(c : Int)].length ≤ maxLen by rw [FFld.ints_len]; unfold maxLen; simp; omega)
      have hOwn := Kept.mk hm.out.own
      have HLX : Kept (∀ j, j < i + 1 → (l ++ [c])[j]?.getD 0 = cjg hD.pre.pk a j) := ⟨fun j hj => by
        rcases Nat.lt_or_ge j i with h | h
        · rw [List.getElem?_append_left (by omega)]
          exact hlx.out j h
        · obtain rfl : j = i := by omega
          rw [List.getElem?_append_right (by omega), hll, Nat.sub_self, hc.out]
          rfl⟩
      obtain ⟨c2v, hc2⟩ : ∃ x, FFld.ppow hD.pre.pk c D.p = x := ⟨_, rfl⟩
      have HC2 : Kept (cjg hD.pre.pk a (i + 1) = c2v) := ⟨by show FFld.ppow hD.pre.pk (cjg hD.pre.pk a i) D.p = _; rw [hc.out, hc2]⟩
      have hP := Kept.mk (fun W => HP.out W c hcq)
      rw [hc2] at hP
      clear hc2 hcq
      go_wp2_with (at_builtin; refine wpList_append_mine _ rfl _ _ 34 rfl 3 .i64 8 Try.underlying34 info_i64 (w.heap.size + 1) _ (ints l) rfl HMa.out HBB.out ⟨wr.heap.size, 0, none⟩ 1 1 [(c : Int)] rfl rfl HNW.out H1.out H2.out ?_)
      intro v' w5 hm5 hg5 hn5
      have HM5 := Kept.mk hm5
      have HX5 := Kept.mk (hbx.out.grown (growTrans (World.grownBy_alloc wr (.cells #[.int .i64 c] 3) _) hg5) (fun j hj => (hOwn.out j hj).1))
      clear hm5 hg5 hn5 c0 c1 c2 c3
      obtain ⟨c0, c1, c2, c3⟩ := four_cells HX5.out.b0
      go_wp2_with fail
      refine (hP.out _).mono ?_
      rintro e w6 ⟨hb6, rfl⟩
      have HM6 := Kept.mk (HM5.out.below hb6)
      have HX6 := Kept.mk (HX5.out.below hb6)
      clear hb6 hP c0 c1 c2 c3
      go_wp2
      go_roundw
      case rel => exact ⟨i + 1, c2v, l ++ [c], by omega, by go_num, rfl, HC2, by simp [hll], HLX, by rw [FFld.ints_append]; exact HM6, HX6⟩
      case measure => simp [intOf] <;> omega
    · obtain rfl : i = D.k := by omega
      go_wp2
      go_ret
      exact ⟨hbx.out.1, _, l, rfl, hm.out.sl, hll, hlx.out⟩
end Go.Proofs.Ytfhhnfpapgfnmaa

set_option linter.unusedVariables false
set_option linter.unusedSimpArgs false
namespace Go.Proofs.Ytfhhnfpapgfnmaa
open Go Go.RowKit Go.Deep
open FFld (ints)
set_option maxRecDepth 20000 in
set_option maxHeartbeats 4000000 in
/-- The reference's trace. -/
theorem rtrace_any {D : FFld.FD} (hD : D.Ok) (a : Nat) (w : World) (ha : a < D.p ^ D.k) :
    Calls Try.prog 59 #[rfv D.q D.p D.k D.m, .int .i64 a] w (RB w (.int .i64 (cjf hD.pre.pk a (fun t c => FFld.padd D.p D.k t c) 0 D.k : Nat))) := by
  have HX0 : Kept (Bxs w [rbox D.q D.p D.k D.m] (w.alloc (rbox D.q D.p D.k D.m))) := ⟨(Bxs.start w).alloc (by simp) _⟩
  have hq6 : D.p ^ D.k ≤ 65536 := hD.pre.small
  have hq6' : D.q ≤ 65536 := hq6
  have HP := Kept.mk (fun W x y (hx : x < D.p ^ D.k) (hy : y < D.p ^ D.k) => radd_any D.q D.p D.k D.m x y W hD.pre.pk.p2 hD.pre.pk.k1 hx hy hq6)
  have HL := Kept.mk (fun i => cjg_lt hD.pre.pk a ha i)
  have hC := Kept.mk (fun W => rconj_any hD a W ha)
  have hk40 : D.k ≤ 40 := FFld.len_of_pow (Nat.pow_le_pow_left hD.pre.prime.1 _) (show D.p ^ D.k ≤ 1099511627776 by omega)
  have HZ : Kept (∀ i, cjf hD.pre.pk a (fun t c => FFld.padd D.p D.k t c) 0 i < D.p ^ D.k) := ⟨fun i => by
    cases i with
    | zero => exact Nat.pow_pos hD.pre.pk.p0
    | succ i => exact FFld.padd_lt hD.pre.pk _ _⟩
  clear ha
  go_enter Try.func59, Try.ntmps59
  obtain ⟨c0, c1, c2, c3⟩ := four_cells HX0.out.b0
  go_wp2_with fail
  refine (hC.out _).mono ?_
  rintro e w1 ⟨hb1, v, xs, rfl, hsl, hxl, hxs⟩
  have HX1 := Kept.mk (HX0.out.below hb1)
  obtain ⟨k, hk⟩ : ∃ k, D.k = k := ⟨_, rfl⟩
  obtain ⟨a1, cp1, rfl, hc1, hm1⟩ := hsl.form
  replace hxl := hxl.trans hk
  replace hxs : ∀ j, j < k → xs[j]?.getD 0 = cjg hD.pre.pk a j := fun j hj => hxs j (by rw [hk]; exact hj)
  rw [FFld.ints_len, hxl] at hc1 hsl ⊢
  have HC1 := Kept.mk (hsl.cells (Nat.le_refl _))
  have HX := Kept.mk hxs
  have HK := Kept.mk hk
  rw [hk] at hk40
  clear hsl hb1 hxs hC c0 c1 c2 c3 hk
  go_wp2
  go_loopw [5, 7] (fun tv iv wr => ∃ (i t : Nat), i ≤ k ∧ iv = .int .i64 i ∧ tv = .int .i64 t ∧ Kept (cjf hD.pre.pk a (fun t c => FFld.padd D.p D.k t c) 0 i = t) ∧ Kept (Below w1.heap.size w1 wr)) (fun _ iv _ => k - (intOf iv).toNat)
  case atStart => exact ⟨0, 0, Nat.zero_le _, rfl, rfl, ⟨rfl⟩, ⟨Below.refl _ _⟩⟩
  case round =>
    obtain ⟨i, t, hik, rfl, rfl, ht, hbw⟩ := hrel
    obtain ⟨i0, i1, i2, i3⟩ := four_cells (HX1.out.below hbw.out).b0
    by_cases hlt : i < k
    · obtain ⟨bb, o, rfl, hcell⟩ := HC1.out _ hbw.out i (by omega)
      obtain ⟨c, hc⟩ : ∃ c, cjg hD.pre.pk a i = c := ⟨_, rfl⟩
      have hxc := HX.out i hlt
      rw [hxc, hc] at hcell
      have hcl : c < D.p ^ D.k := by rw [← hc]; exact HL.out i
      have htl : t < D.p ^ D.k := by rw [← ht.out]; exact HZ.out i
      have HN : Kept (cjf hD.pre.pk a (fun t c => FFld.padd D.p D.k t c) 0 (i + 1) = (fun t c => FFld.padd D.p D.k t c) t c) := ⟨by show (fun t c => FFld.padd D.p D.k t c) (cjf hD.pre.pk a (fun t c => FFld.padd D.p D.k t c) 0 i) (cjg hD.pre.pk a i) = _; rw [ht.out, hc]⟩
      have hP := Kept.mk (fun W (hW : Below wr.heap.size wr W) => HP.out W t c htl hcl)
      clear hxc hc hcl htl
      go_wp2
      go_region_held3 (fun w' => w'.cell? ⟨w.heap.size, 0, none⟩ = some (.int .i64 D.q) ∧ w'.cell? ⟨w.heap.size, 1, none⟩ = some (.int .i64 D.p) ∧ w'.cell? ⟨w.heap.size, 2, none⟩ = some (.int .i64 D.k) ∧ w'.cell? ⟨w.heap.size, 3, none⟩ = some (.int .i64 D.m) ∧ w'.cell? ⟨bb, o + i, none⟩ = some (.int .i64 c))
        (first | exact ⟨j0, j1, j2, j3, jc⟩ | exact ⟨i0, i1, i2, i3, hcell⟩ | go_keep)
        ((first
          | ((with_reducible refine (hP.out _ ?_).mono ?_); (exact (by first | exact Below.refl _ _ | exact (Below.refl _ _).drew)); rintro e w3 ⟨hb3, rfl⟩; have HB3 := Kept.mk (bstep (show Below wr.heap.size wr _ from (by first | exact Below.refl _ _ | exact (Below.refl _ _).drew)) hb3); have j0 := belowCell HB3.out i0; have j1 := belowCell HB3.out i1; have j2 := belowCell HB3.out i2; have j3 := belowCell HB3.out i3; have jc := belowCell HB3.out hcell; clear hb3)))
      have HX3 := Kept.mk (bstep hbw.out HB3.out)
      go_wp2
      go_roundw
      case rel => exact ⟨i + 1, _, by omega, by go_num, rfl, HN, HX3⟩
      case measure => simp [intOf] <;> omega
    · obtain rfl : i = k := by omega
      go_wp2
      go_ret
      exact ⟨(HX1.out.below hbw.out).1, congrArg (fun n : Nat => Ending.returned (.int .i64 (n : Int))) (ht.out.symm.trans (congrArg _ HK.out.symm))⟩
end Go.Proofs.Ytfhhnfpapgfnmaa

set_option linter.unusedVariables false
set_option linter.unusedSimpArgs false
namespace Go.Proofs.Ytfhhnfpapgfnmaa
open Go Go.RowKit Go.Deep
open FFld (ints)
set_option maxRecDepth 20000 in
set_option maxHeartbeats 4000000 in
/-- The reference's norm. -/
theorem rnorm_any {D : FFld.FD} (hD : D.Ok) (a : Nat) (w : World) (ha : a < D.p ^ D.k) :
    Calls Try.prog 60 #[rfv D.q D.p D.k D.m, .int .i64 a] w (RB w (.int .i64 (cjf hD.pre.pk a (fun t c => FFld.pmul D.p D.k D.m t D.k c) 1 D.k : Nat))) := by
  have HX0 : Kept (Bxs w [rbox D.q D.p D.k D.m] (w.alloc (rbox D.q D.p D.k D.m))) := ⟨(Bxs.start w).alloc (by simp) _⟩
  have hq6 : D.p ^ D.k ≤ 65536 := hD.pre.small
  have hq6' : D.q ≤ 65536 := hq6
  have HP := Kept.mk (fun W x y (hx : x < D.p ^ D.k) (hy : y < D.p ^ D.k) => rmul_any D.q D.p D.k D.m x y W hD.pre.pk.p2 hD.pre.pk.k1 hx hy hq6 (md_ok hD))
  have HL := Kept.mk (fun i => cjg_lt hD.pre.pk a ha i)
  have hC := Kept.mk (fun W => rconj_any hD a W ha)
  have hk40 : D.k ≤ 40 := FFld.len_of_pow (Nat.pow_le_pow_left hD.pre.prime.1 _) (show D.p ^ D.k ≤ 1099511627776 by omega)
  have HZ : Kept (∀ i, cjf hD.pre.pk a (fun t c => FFld.pmul D.p D.k D.m t D.k c) 1 i < D.p ^ D.k) := ⟨fun i => by
    cases i with
    | zero => exact hD.pre.pk.one_lt
    | succ i => exact FFld.pmul_lt hD.pre.pk _ _ _⟩
  clear ha
  go_enter Try.func60, Try.ntmps60
  obtain ⟨c0, c1, c2, c3⟩ := four_cells HX0.out.b0
  go_wp2_with fail
  refine (hC.out _).mono ?_
  rintro e w1 ⟨hb1, v, xs, rfl, hsl, hxl, hxs⟩
  have HX1 := Kept.mk (HX0.out.below hb1)
  obtain ⟨k, hk⟩ : ∃ k, D.k = k := ⟨_, rfl⟩
  obtain ⟨a1, cp1, rfl, hc1, hm1⟩ := hsl.form
  replace hxl := hxl.trans hk
  replace hxs : ∀ j, j < k → xs[j]?.getD 0 = cjg hD.pre.pk a j := fun j hj => hxs j (by rw [hk]; exact hj)
  rw [FFld.ints_len, hxl] at hc1 hsl ⊢
  have HC1 := Kept.mk (hsl.cells (Nat.le_refl _))
  have HX := Kept.mk hxs
  have HK := Kept.mk hk
  rw [hk] at hk40
  clear hsl hb1 hxs hC c0 c1 c2 c3 hk
  go_wp2
  go_loopw [5, 7] (fun tv iv wr => ∃ (i t : Nat), i ≤ k ∧ iv = .int .i64 i ∧ tv = .int .i64 t ∧ Kept (cjf hD.pre.pk a (fun t c => FFld.pmul D.p D.k D.m t D.k c) 1 i = t) ∧ Kept (Below w1.heap.size w1 wr)) (fun _ iv _ => k - (intOf iv).toNat)
  case atStart => exact ⟨0, 1, Nat.zero_le _, rfl, rfl, ⟨rfl⟩, ⟨Below.refl _ _⟩⟩
  case round =>
    obtain ⟨i, t, hik, rfl, rfl, ht, hbw⟩ := hrel
    obtain ⟨i0, i1, i2, i3⟩ := four_cells (HX1.out.below hbw.out).b0
    by_cases hlt : i < k
    · obtain ⟨bb, o, rfl, hcell⟩ := HC1.out _ hbw.out i (by omega)
      obtain ⟨c, hc⟩ : ∃ c, cjg hD.pre.pk a i = c := ⟨_, rfl⟩
      have hxc := HX.out i hlt
      rw [hxc, hc] at hcell
      have hcl : c < D.p ^ D.k := by rw [← hc]; exact HL.out i
      have htl : t < D.p ^ D.k := by rw [← ht.out]; exact HZ.out i
      have HN : Kept (cjf hD.pre.pk a (fun t c => FFld.pmul D.p D.k D.m t D.k c) 1 (i + 1) = (fun t c => FFld.pmul D.p D.k D.m t D.k c) t c) := ⟨by show (fun t c => FFld.pmul D.p D.k D.m t D.k c) (cjf hD.pre.pk a (fun t c => FFld.pmul D.p D.k D.m t D.k c) 1 i) (cjg hD.pre.pk a i) = _; rw [ht.out, hc]⟩
      have hP := Kept.mk (fun W (hW : Below wr.heap.size wr W) => HP.out W t c htl hcl)
      clear hxc hc hcl htl
      go_wp2
      go_region_held3 (fun w' => w'.cell? ⟨w.heap.size, 0, none⟩ = some (.int .i64 D.q) ∧ w'.cell? ⟨w.heap.size, 1, none⟩ = some (.int .i64 D.p) ∧ w'.cell? ⟨w.heap.size, 2, none⟩ = some (.int .i64 D.k) ∧ w'.cell? ⟨w.heap.size, 3, none⟩ = some (.int .i64 D.m) ∧ w'.cell? ⟨bb, o + i, none⟩ = some (.int .i64 c))
        (first | exact ⟨j0, j1, j2, j3, jc⟩ | exact ⟨i0, i1, i2, i3, hcell⟩ | go_keep)
        ((first
          | ((with_reducible refine (hP.out _ ?_).mono ?_); (exact (by first | exact Below.refl _ _ | exact (Below.refl _ _).drew)); rintro e w3 ⟨hb3, rfl⟩; have HB3 := Kept.mk (bstep (show Below wr.heap.size wr _ from (by first | exact Below.refl _ _ | exact (Below.refl _ _).drew)) hb3); have j0 := belowCell HB3.out i0; have j1 := belowCell HB3.out i1; have j2 := belowCell HB3.out i2; have j3 := belowCell HB3.out i3; have jc := belowCell HB3.out hcell; clear hb3)))
      have HX3 := Kept.mk (bstep hbw.out HB3.out)
      go_wp2
      go_roundw
      case rel => exact ⟨i + 1, _, by omega, by go_num, rfl, HN, HX3⟩
      case measure => simp [intOf] <;> omega
    · obtain rfl : i = k := by omega
      go_wp2
      go_ret
      exact ⟨(HX1.out.below hbw.out).1, congrArg (fun n : Nat => Ending.returned (.int .i64 (n : Int))) (ht.out.symm.trans (congrArg _ HK.out.symm))⟩
end Go.Proofs.Ytfhhnfpapgfnmaa
