/-
  Texts of the proof, merged by program: Cut Loa Lob Lod.
-/
import Derived.Test.YtfhhnfpapgfnmaaZLla
import Derived.Test.YtfhhnfpapgfnmaaZLgb
import Derived.Deep.Cut
set_option linter.unusedVariables false
namespace Go.Proofs.Ytfhhnfpapgfnmaa
open Go Go.RowKit Go.Deep
def headIs (n : Nat) : Code → Bool
  | .region m _ _ => Nat.beq m n
  | .seq a _ => headIs n a
  | _ => false
def seqAt (n : Nat) : Code → Code
  | .seq a b => match headIs n a with
    | true => .seq a b
    | false => seqAt n b
  | .scope c => seqAt n c
  | .block _ c => seqAt n c
  | c => c
def fstOf : Code → Code
  | .seq a _ => a
  | c => c
def sndOf : Code → Code
  | .seq _ b => b
  | c => c
def loopOf : Code → Code
  | .loop c => c
  | .seq _ b => loopOf b
  | .block _ c => loopOf c
  | c => c
end Go.Proofs.Ytfhhnfpapgfnmaa

set_option linter.unusedVariables false
set_option linter.unusedSimpArgs false
namespace Go.Proofs.Ytfhhnfpapgfnmaa
open Go Go.RowKit Go.Deep
open FFld (ints)
namespace FFld
theorem FD.Ok.one_iff {D : FD} (h : D.Ok) {x : Nat} (hx : x < D.p ^ D.k) (n : Nat) : ppow h.pre.pk x n = 1 ↔ (FD.dom h.nzd).pow ⟨x, hx⟩ n = (FD.dom h.nzd).one := by
  rw [ppow_of _ _ _ hx, ← dom_pow h.nzd]
  exact ⟨fun e => Subtype.ext e, fun e => by rw [e]; rfl⟩
theorem FD.Ok.first_ord {D : FD} (h : D.Ok) {x n : Nat} (h1 : 1 ≤ x) (hg : x ≤ D.g) (hn : 0 < n) (he : ppow h.pre.pk x n = 1) (hm : ∀ i, 0 < i → i < n → ppow h.pre.pk x i ≠ 1) : (n = D.p ^ D.k - 1) ↔ x = D.g := by
  have hgq := h.gq
  have hx : x < D.p ^ D.k := by omega
  have hq := h.pre.pk.one_lt
  have hx0 : x ≠ 0 := by omega
  constructor
  · intro hn1
    rcases Nat.lt_or_ge x D.g with hlt | hge
    · exfalso
      refine h.least x hx h1 hlt ?_
      intro k
      rw [← h.one_iff hx]
      constructor
      · intro e
        rw [← h.pow_red hx hx0] at e
        refine Nat.dvd_of_mod_eq_zero ?_
        refine Classical.byContradiction fun h0 => hm _ (Nat.pos_of_ne_zero h0) ?_ e
        rw [hn1]
        exact Nat.mod_lt _ (by omega)
      · intro hd
        rw [← h.pow_red hx hx0, Nat.mod_eq_zero_of_dvd hd]
        exact ppow_zero _ x hx
    · omega
  · rintro rfl
    have hd := (h.ord n).1 ((h.one_iff h.gq n).1 he)
    have hle := Nat.le_of_dvd hn hd
    rcases Nat.lt_or_ge (D.p ^ D.k - 1) n with hlt | hge
    · exact absurd (h.fermat hx hx0) (hm _ (by omega) hlt)
    · omega
theorem FD.Ok.next_ord {D : FD} (h : D.Ok) {x n : Nat} (h1 : 1 ≤ x) (hg : x ≤ D.g) (hn : n ≤ D.p ^ D.k - 1) (he : ppow h.pre.pk x n ≠ 1) : n + 1 ≤ D.p ^ D.k - 1 := by
  have hgq := h.gq
  rcases Nat.lt_or_ge n (D.p ^ D.k - 1) with hlt | hge
  · exact hlt
  · obtain rfl : n = D.p ^ D.k - 1 := by omega
    exact absurd (h.fermat (by omega) (by omega)) he
theorem FD.Ok.log_add {D : FD} (h : D.Ok) {a c l m n : Nat} (hn : n < D.p ^ D.k - 1) (ha : ppow h.pre.pk D.g l = a) (hc : ppow h.pre.pk D.g m = c) (he : ppow h.pre.pk D.g n = pmul D.p D.k D.m a D.k c) : n = (l + m) % (D.p ^ D.k - 1) := by
  have hq := h.pre.pk.one_lt
  refine h.pow_inj hn (Nat.mod_lt _ (by omega)) ?_
  rw [he, h.pow_mod, ← ha, ← hc, ppow_add _ _ _ _ h.gq]
end FFld
theorem el_log {D : FFld.FD} {b : Nat} {W : World} (hf : FldB D W b) {x l : Nat} (hx : x < D.p ^ D.k) (h0 : x ≠ 0) (hl : l < D.p ^ D.k - 1) (h : FFld.ppow hf.ok.pre.pk D.g l = x) : Calls Try.prog 29 #[.pointer (some ⟨b, 0, none⟩), .int .i64 x] W (RB W (.tuple #[.int .i64 l, .int .i64 0])) := by
  have hq : D.p ^ D.k ≤ 65536 := hf.ok.pre.small
  exact flog_any (x : Int) W hf (by omega) (by omega) x l (el_mod hx) hx h0 hl h
theorem el_powz {D : FFld.FD} {b : Nat} {W : World} (hf : FldB D W b) {x n z : Nat} (hx : x < D.p ^ D.k) (h : FFld.ppow hf.ok.pre.pk x n = z) : Calls Try.prog 28 #[.pointer (some ⟨b, 0, none⟩), .int .i64 x, .int .i64 n] W (RB W (.tuple #[.int .i64 z, .int .i64 0])) := by
  by_cases hn : n = 0
  · subst hn
    have hq : D.p ^ D.k ≤ 65536 := hf.ok.pre.small
    rw [FFld.ppow_zero _ x hx] at h
    subst h
    exact (fpow_zero (x : Int) W hf (by omega) (by omega) x (el_mod hx)).mono fun e w' ⟨h1, h2⟩ => ⟨h1 ▸ Below.refl _ _, h2⟩
  · exact el_pow hf hx (by omega) h
theorem w64_add {l r : Nat} (h1 : l ≤ 65536) (h2 : r ≤ 65536) : wrap64 ((l : Int) + r) = (l : Int) + r := w64 (by omega) (by omega)
theorem wi_add {l r : Nat} (h1 : l ≤ 65536) (h2 : r ≤ 65536) : IntKind.i64.wrap ((l : Int) + r) = (l : Int) + r := wi (by omega) (by omega)
theorem w64_pred {q m : Nat} (h1 : q - 1 = m) (h2 : 1 ≤ q) (h3 : q ≤ 65536) : (q : Int) - 1 = m ∧ wrap64 ((q : Int) - 1) = m ∧ IntKind.i64.wrap ((q : Int) - 1) = m := by
  have e : (q : Int) - 1 = m := by omega
  exact ⟨e, by rw [e]; exact w64 (by omega) (by omega), by rw [e]; exact wi (by omega) (by omega)⟩
theorem tmod_add {l r m n : Nat} (h : n = (l + r) % m) : ((l : Int) + r).tmod m = n := by rw [h]; exact (Int.ofNat_tmod (l + r) m).symm
theorem lt_le {l q : Nat} (h : l < q - 1) (hq : q ≤ 65536) : l ≤ 65536 := by omega
end Go.Proofs.Ytfhhnfpapgfnmaa

set_option linter.unusedVariables false
set_option linter.unusedSimpArgs false
namespace Go.Proofs.Ytfhhnfpapgfnmaa
open Go Go.RowKit Go.Deep
open FFld (ints)
noncomputable def fo12 : Code := seqAt 12 (Try.f15.body.getD .skip)
set_option maxRecDepth 100000 in
set_option maxHeartbeats 16000000 in
theorem fieldOrders_end {K : Act → World → Prop} {D : FFld.FD} {b g8 G : Nat} {x y : Int} {w wr : World} (HD : Kept D.Ok) (HG : Kept (D.g = G)) (hq2 : D.q ≤ 2000) (x0 : -9223372036854775808 ≤ x) (x1 : x ≤ 9223372036854775807) (y0 : -9223372036854775808 ≤ y) (y1 : y ≤ 9223372036854775807)
    {t0 t3 t4 t5 t6 t10 t11 t12 t13 t14 t15 t16 t17 t18 t19 t20 t21 t22 t23 t24 t25 t26 t27 t28 t29 t30 t31 t32 t33 t34 t35 t36 t37 t38 t39 t40 t41 t42 t43 t44 t45 t46 t47 t48 t49 t50 t51 t52 t53 t54 t55 t56 t57 t58 t59 t60 t61 t62 t63 t64 t65 t66 t67 t68 t69 t70 t71 t72 t73 t74 t75 t76 t77 t78 t79 t80 t81 t82 t83 t84 t85 t86 t87 t88 t89 t90 t91 t92 t93 t94 t95 t96 t97 t98 t99 t100 t101 t102 t103 t104 t105 t106 t107 t108 t109 t110 t111 t112 t113 t114 t115 t116 t117 t118 t119 t120 t121 t122 t123 t124 t125 t126 t127 t128 t129 t130 t131 t132 : Value} (hi : wr.cell? ⟨g8, 0, none⟩ = some (.int .i64 D.q) ∧ wr.cell? ⟨g8, 1, none⟩ = some (.int .i64 D.p) ∧ wr.cell? ⟨g8, 2, none⟩ = some (.int .i64 D.k) ∧ wr.cell? ⟨g8, 3, none⟩ = some (.int .i64 D.m)) (HB : Kept (Below w.heap.size w wr)) (HF : Kept (FldB D wr b))
    (hK : ∀ a w', Code.wp Try.prog (sndOf fo12) (bodyPost Try.prog Try.f15 (RB w (.bool true))) a w' → K a w') : Code.wp Try.prog (fstOf fo12) (Exit.then K (bodyPost Try.prog Try.f15 (RB w (.bool true)))) ⟨#[t0, .int .i64 x, .int .i64 y, t3, t4, t5, t6, .pointer (some ⟨b, 0, none⟩), .pointer (some ⟨g8, 0, none⟩), .int .i64 (G : Nat), t10, t11, t12, t13, t14, t15, t16, t17, t18, t19, t20, t21, t22, t23, t24, t25, t26, t27, t28, t29, t30, t31, t32, t33, t34, t35, t36, t37, t38, t39, t40, t41, t42, t43, t44, t45, t46, t47, t48, t49, t50, t51, t52, t53, t54, t55, t56, t57, t58, t59, t60, t61, t62, t63, t64, t65, t66, t67, t68, t69, t70, t71, t72, t73, t74, t75, t76, t77, t78, t79, t80, t81, t82, t83, t84, t85, t86, t87, t88, t89, t90, t91, t92, t93, t94, t95, t96, t97, t98, t99, t100, t101, t102, t103, t104, t105, t106, t107, t108, t109, t110, t111, t112, t113, t114, t115, t116, t117, t118, t119, t120, t121, t122, t123, t124, t125, t126, t127, t128, t129, t130, t131, t132], []⟩ wr := by
  conv => arg 2; whnf
  obtain ⟨i0, i1, i2, i3⟩ := hi
  obtain ⟨a, hra, ha⟩ := red_nat HD.out x
  obtain ⟨c, hrc, hc⟩ := red_nat HD.out y
  have hq6' : D.q ≤ 65536 := by omega
  have hq1' : 1 ≤ D.q := Nat.le_of_lt HD.out.pre.pk.one_lt
  have hI1 := Kept.mk (fun W (hW : Below wr.heap.size wr W) => rin_any D.q D.p D.k D.m x W hq1' hq6' x0 x1)
  have hI2 := Kept.mk (fun W (hW : Below wr.heap.size wr W) => rin_any D.q D.p D.k D.m y W hq1' hq6' y0 y1)
  rw [hra] at hI1
  rw [hrc] at hI2
  have HA := Kept.mk ha
  have HC := Kept.mk hc
  have hgq : G < D.q := by rw [← HG.out]; exact HD.out.gq
  have hg6 : G ≤ 65536 := by omega
  clear hra hrc ha hc
  have HK := Kept.mk hK
  clear hK
  go_region_held3 (fun w' => w'.cell? ⟨g8, 0, none⟩ = some (.int .i64 D.q) ∧ w'.cell? ⟨g8, 1, none⟩ = some (.int .i64 D.p) ∧ w'.cell? ⟨g8, 2, none⟩ = some (.int .i64 D.k) ∧ w'.cell? ⟨g8, 3, none⟩ = some (.int .i64 D.m))
    (first | exact ⟨k0, k1, k2, k3⟩ | exact ⟨j0, j1, j2, j3⟩ | exact ⟨i0, i1, i2, i3⟩ | go_keep)
    ((first
      | (go_at_call 51; (with_reducible refine (hI1.out _ ?h1).mono ?_); (case h1 => exact (by first | exact Below.refl _ _ | exact (Below.refl _ _).drew)); rintro e v1 ⟨hb1, rfl⟩; have hy1 := Kept.mk (bstep (show Below wr.heap.size wr _ from (by first | exact Below.refl _ _ | exact (Below.refl _ _).drew)) hb1); have j0 := belowCell hy1.out i0; have j1 := belowCell hy1.out i1; have j2 := belowCell hy1.out i2; have j3 := belowCell hy1.out i3; clear hb1)
      | (go_at_call 51; (with_reducible refine (hI2.out _ ?h1).mono ?_); (case h1 => exact hy1.out); rintro e v2 ⟨hb2, rfl⟩; have hy2 := Kept.mk (bstep (show Below wr.heap.size wr _ from hy1.out) hb2); have k0 := belowCell hy2.out i0; have k1 := belowCell hy2.out i1; have k2 := belowCell hy2.out i2; have k3 := belowCell hy2.out i3; clear hb2)))
  replace HF := Kept.mk (HF.out.below hy2.out)
  replace HB := Kept.mk (bstep HB.out hy2.out)
  have c0 := belowCell hy2.out i0
  have c1 := belowCell hy2.out i1
  have c2 := belowCell hy2.out i2
  have c3 := belowCell hy2.out i3
  clear hI1 hI2 hy1 hy2 i0 i1 i2 i3 j0 j1 j2 j3 k0 k1 k2 k3
  refine HK.out _ _ ?_
  clear HK
  conv => arg 2; whnf
  have ha := HA.out
  have hc := HC.out
  have ha6 := el_le HD.out ha
  have hc6 := el_le HD.out hc
  by_cases ha0 : a = 0
  · have e0 : ((a : Int) == 0) = true := by rw [ha0]; rfl
    clear ha0
    go_wp2_with fail
    refine (awake_any _).mono ?_
    rintro e w7 ⟨hb7, rfl⟩
    replace HB := Kept.mk (bstep HB.out hb7)
    clear hb7
    go_wp2
    go_ret
    exact ⟨HB.out, rfl⟩
  · have e0 : ((a : Int) == 0) = false := by rw [beq_eq_false_iff_ne]; omega
    by_cases hc0 : c = 0
    · have e1 : ((c : Int) == 0) = true := by rw [hc0]; rfl
      clear hc0
      go_wp2_with fail
      refine (awake_any _).mono ?_
      rintro e w7 ⟨hb7, rfl⟩
      replace HB := Kept.mk (bstep HB.out hb7)
      clear hb7
      go_wp2
      go_ret
      exact ⟨HB.out, rfl⟩
    · have e1 : ((c : Int) == 0) = false := by rw [beq_eq_false_iff_ne]; omega
      have hpk := HD.out.pre.pk
      obtain ⟨m, hm⟩ : ∃ m, D.q - 1 = m := ⟨_, rfl⟩
      have HM : Kept (D.p ^ D.k - 1 = m) := ⟨hm⟩
      obtain ⟨l, hl, hla⟩ := HD.out.log a ha ha0
      obtain ⟨r, hr, hrc⟩ := HD.out.log c hc hc0
      obtain ⟨d, hd⟩ : ∃ d, FFld.pmul D.p D.k D.m a D.k c = d := ⟨_, rfl⟩
      have hdq : d < D.p ^ D.k := by rw [← hd]; exact FFld.pmul_lt hpk _ _ _
      have hd0 : d ≠ 0 := by
        rw [← hd, ← hla, ← hrc, FFld.ppow_add _ _ _ _ HD.out.gq]
        exact HD.out.pow_ne _
      obtain ⟨n, hn, hnd⟩ := HD.out.log d hdq hd0
      have hnn : n = (l + r) % m := by rw [← HM.out]; exact HD.out.log_add hn hla hrc (hnd.trans hd.symm)
      have hGd : D.g = G := HG.out
      have hgd : G < D.p ^ D.k := hgq
      have hla2 : FFld.ppow hpk G l = a := by rw [← hGd]; exact hla
      have L1 := Kept.mk (fun W (hf : FldB D W b) => el_log (W := W) hf ha ha0 hl hla)
      have L2 := Kept.mk (fun W (hf : FldB D W b) => el_log (W := W) hf hc hc0 hr hrc)
      have L3 := Kept.mk (fun W (hf : FldB D W b) => el_mul (W := W) hf ha hc hd)
      have L4 := Kept.mk (fun W (hf : FldB D W b) => el_log (W := W) hf hdq hd0 hn hnd)
      have L5 := Kept.mk (fun W (hf : FldB D W b) => el_powz (W := W) hf hgd hla2)
      have hq66 : D.p ^ D.k ≤ 65536 := HD.out.pre.small
      have hl6 : l ≤ 65536 := lt_le hl hq66
      have hr6 : r ≤ 65536 := lt_le hr hq66
      have hn6 : n ≤ 65536 := lt_le hn hq66
      obtain ⟨eqm, eqw, eqx⟩ := w64_pred hm hq1' hq6'
      have em := tmod_add hnn
      have ew := w64_add hl6 hr6
      have ew2 := wi_add hl6 hr6
      have hm1 : 1 ≤ m := by rw [← HM.out]; exact Nat.le_sub_of_add_le HD.out.pre.pk.one_lt
      have em0 : ((m : Int) == 0) = false := by rw [beq_eq_false_iff_ne]; exact Int.natCast_ne_zero.2 (Nat.ne_of_gt hm1)
      clear hl hla hr hrc hd hn hnd hGd hla2 hgd hdq hd0 hpk hm HG ha0 hc0 hnn hq66
      go_wp2_with fail
      refine (L1.out _ HF.out).mono ?_
      rintro e z1 ⟨hb, rfl⟩
      replace c0 := belowCell hb c0
      replace c1 := belowCell hb c1
      replace c2 := belowCell hb c2
      replace c3 := belowCell hb c3
      replace HB := Kept.mk (bstep HB.out hb)
      replace HF := Kept.mk (HF.out.below hb)
      clear hb
      go_wp2_with fail
      refine (L2.out _ HF.out).mono ?_
      rintro e z2 ⟨hb, rfl⟩
      replace c0 := belowCell hb c0
      replace c1 := belowCell hb c1
      replace c2 := belowCell hb c2
      replace c3 := belowCell hb c3
      replace HB := Kept.mk (bstep HB.out hb)
      replace HF := Kept.mk (HF.out.below hb)
      clear hb
      go_wp2_with fail
      refine (L3.out _ HF.out).mono ?_
      rintro e z3 ⟨hb, rfl⟩
      replace c0 := belowCell hb c0
      replace c1 := belowCell hb c1
      replace c2 := belowCell hb c2
      replace c3 := belowCell hb c3
      replace HB := Kept.mk (bstep HB.out hb)
      replace HF := Kept.mk (HF.out.below hb)
      clear hb
      go_wp2_with fail
      refine (L4.out _ HF.out).mono ?_
      rintro e z4 ⟨hb, rfl⟩
      replace c0 := belowCell hb c0
      replace c1 := belowCell hb c1
      replace c2 := belowCell hb c2
      replace c3 := belowCell hb c3
      replace HB := Kept.mk (bstep HB.out hb)
      replace HF := Kept.mk (HF.out.below hb)
      clear hb
      go_wp2_with fail
      refine (L5.out _ HF.out).mono ?_
      rintro e z5 ⟨hb, rfl⟩
      replace c0 := belowCell hb c0
      replace c1 := belowCell hb c1
      replace c2 := belowCell hb c2
      replace c3 := belowCell hb c3
      replace HB := Kept.mk (bstep HB.out hb)
      replace HF := Kept.mk (HF.out.below hb)
      clear hb
      clear L1 L2 L3 L4 L5
      go_wp2_with fail
      refine (awake_any _).mono ?_
      rintro e z6 ⟨hb, rfl⟩
      replace HB := Kept.mk (bstep HB.out hb)
      clear hb
      go_wp2
      go_ret
      exact ⟨HB.out, rfl⟩
end Go.Proofs.Ytfhhnfpapgfnmaa

set_option linter.unusedVariables false
set_option linter.unusedSimpArgs false
namespace Go.Proofs.Ytfhhnfpapgfnmaa
open Go Go.RowKit Go.Deep
open FFld (ints)
set_option maxRecDepth 20000 in
set_option maxHeartbeats 8000000 in
theorem fieldOrders_any (order x y : Int) (w : World) (o0 : -9223372036854775808 ≤ order) (o1 : order ≤ 9223372036854775807) (x0 : -9223372036854775808 ≤ x) (x1 : x ≤ 9223372036854775807) (y0 : -9223372036854775808 ≤ y) (y1 : y ≤ 9223372036854775807) :
    Calls Try.prog 15 #[.int .i64 order, .int .i64 x, .int .i64 y] w (RB w (.bool true)) := by
  go_enter Try.func15, Try.ntmps15
  go_wp2_with fail
  refine (some_any order 2000 w o0 o1 (by omega) (by omega)).mono ?_
  rintro e w1 ⟨hb1, D, b, hD, hle, hbl, hf, rfl⟩
  have HB1 := Kept.mk hb1
  have HF1 := Kept.mk hf
  have HD := Kept.mk hD
  have hq0 : D.q = D.p ^ D.k := rfl
  have hq6 := hD.pre.small
  have hq1 := hD.pre.pk.one_lt
  rw [← hq0] at hq1
  have hbx : Below w1.heap.size w1 (w1.alloc (rbox D.q D.p D.k D.m)) := (Below.refl _ _).alloc (Nat.le_refl _) _
  obtain ⟨i0, i1, i2, i3⟩ := four_cells (heap_alloc_new w1 (rbox D.q D.p D.k D.m))
  have HX := Kept.mk hbx
  have hns : w1.heap.size < (w1.alloc (rbox D.q D.p D.k D.m)).heap.size := by simp
  clear hb1 hf hD hbx hq0
  have HF := Kept.mk (HF1.out.below HX.out)
  have HB := Kept.mk (bstep HB1.out HX.out)
  obtain ⟨g8, hg8⟩ : ∃ g, w1.heap.size = g := ⟨_, rfl⟩
  have hG := Kept.mk (generator_any _ HF.out)
  have hq2 : D.q ≤ 2000 := by omega
  go_wp2_with fail
  refine hG.out.mono ?_
  rintro e w2 ⟨rfl, rfl⟩
  obtain ⟨W0, hW0⟩ : ∃ W, w1.alloc (rbox D.q D.p D.k D.m) = W := ⟨_, rfl⟩
  rw [hW0] at i0 i1 i2 i3 HF HB
  try rw [hW0]
  rw [hg8] at i0 i1 i2 i3
  try rw [hg8]
  clear hW0 hG HX HF1 HB1 hns hg8
  obtain ⟨G, hGG⟩ : ∃ G, D.g = G := ⟨_, rfl⟩
  rw [hGG]
  have HG := Kept.mk hGG
  clear hGG
  obtain ⟨m, hm⟩ : ∃ m, D.q - 1 = m := ⟨_, rfl⟩
  have HM : Kept (D.p ^ D.k - 1 = m) := ⟨hm⟩
  have hgq : G < D.q := by rw [← HG.out]; exact HD.out.gq
  have hg1 : 1 ≤ G := by rw [← HG.out]; exact HD.out.g1
  have eqm : (D.q : Int) - 1 = m := by omega
  have eqw : wrap64 ((D.q : Int) - 1) = m := by rw [eqm]; exact w64 (by omega) (by omega)
  have eqx : IntKind.i64.wrap ((D.q : Int) - 1) = m := by rw [eqm]; exact wi (by omega) (by omega)
  have hm6 : m ≤ 2000 := by omega
  have HQM : Kept (D.q = m + 1) := ⟨by omega⟩
  have HQ1 : Kept (1 ≤ m) := ⟨by have := HD.out.pre.pk.one_lt; have := HM.out; omega⟩
  have HO := Kept.mk (fun (i n : Nat) (h1 : 1 ≤ i) (h2 : i ≤ G) (hn : 0 < n) (he : FFld.ppow HD.out.pre.pk i n = 1) (hmn : ∀ j, 0 < j → j < n → FFld.ppow HD.out.pre.pk i j ≠ 1) => show n = m ↔ i = G from by
    have := HD.out.first_ord h1 (by rw [HG.out]; exact h2) hn he hmn
    rw [HM.out, HG.out] at this
    exact this)
  have HN := Kept.mk (fun (i n : Nat) (h1 : 1 ≤ i) (h2 : i ≤ G) (hn : n ≤ m) (he : FFld.ppow HD.out.pre.pk i n ≠ 1) => show n + 1 ≤ m from by
    have := HD.out.next_ord h1 (by rw [HG.out]; exact h2) (by rw [HM.out]; exact hn) he
    rw [HM.out] at this
    exact this)
  clear hm
  go_wp2
  go_loopw [10] (fun xv wr => ∃ i : Nat, 1 ≤ i ∧ i ≤ G + 1 ∧ xv = .int .i64 i ∧ (wr.cell? ⟨g8, 0, none⟩ = some (.int .i64 D.q) ∧ wr.cell? ⟨g8, 1, none⟩ = some (.int .i64 D.p) ∧ wr.cell? ⟨g8, 2, none⟩ = some (.int .i64 D.k) ∧ wr.cell? ⟨g8, 3, none⟩ = some (.int .i64 D.m)) ∧ Kept (Below w.heap.size w wr) ∧ Kept (FldB D wr b)) (fun xv _ => G + 1 - (intOf xv).toNat)
  case atStart => exact ⟨1, Nat.le_refl _, by omega, rfl, ⟨i0, i1, i2, i3⟩, HB, HF⟩
  case round =>
    clear i0 i1 i2 i3 HB HF
    obtain ⟨i, hi1, hiG, rfl, ⟨i0, i1, i2, i3⟩, HB, HF⟩ := hrel
    by_cases hlt : i ≤ G
    · have hiq : i < D.p ^ D.k := show i < D.q by omega
      have HIQ := Kept.mk hiq
      clear hiq
      go_wp2
      go_loopw [11, 12] (fun nv yv wr => ∃ n v : Nat, 1 ≤ n ∧ n ≤ m ∧ v ≤ 65536 ∧ nv = .int .i64 n ∧ yv = .int .i64 v ∧ Kept (FFld.ppow HD.out.pre.pk i n = v) ∧ Kept (∀ j, 0 < j → j < n → FFld.ppow HD.out.pre.pk i j ≠ 1) ∧ (wr.cell? ⟨g8, 0, none⟩ = some (.int .i64 D.q) ∧ wr.cell? ⟨g8, 1, none⟩ = some (.int .i64 D.p) ∧ wr.cell? ⟨g8, 2, none⟩ = some (.int .i64 D.k) ∧ wr.cell? ⟨g8, 3, none⟩ = some (.int .i64 D.m)) ∧ Kept (Below w.heap.size w wr) ∧ Kept (FldB D wr b)) (fun nv _ _ => m - (intOf nv).toNat)
      case atStart => exact ⟨1, i, Nat.le_refl _, HQ1.out, by omega, rfl, rfl, ⟨FFld.ppow_one _ i HIQ.out⟩, ⟨fun j h1 h2 => by omega⟩, ⟨i0, i1, i2, i3⟩, HB, HF⟩
      case round =>
        clear i0 i1 i2 i3 HB HF
        obtain ⟨n, v, hn1, hnm, hv6, rfl, rfl, hv, hmn, ⟨i0, i1, i2, i3⟩, HB, HF⟩ := hrel
        by_cases hv1 : v = 1
        · have hO := HO.out i n hi1 hlt (by omega) (hv.out.trans hv1) hmn.out
          subst hv1
          have e0 : (((1 : Nat) : Int) == 1) = true := rfl
          by_cases hiG2 : i = G
          · have e1 : ((i : Int) == (G : Int)) = true := by rw [hiG2]; simp
            have e2 : ((n : Int) == (m : Int)) = true := by rw [hO.2 hiG2]; simp
            clear hiG2 hO
            go_wp2
            go_roundw
            case rel => exact ⟨i + 1, by omega, by omega, by go_num, ⟨i0, i1, i2, i3⟩, HB, HF⟩
            case measure => simp [intOf] <;> omega
          · have e1 : ((i : Int) == (G : Int)) = false := by rw [beq_eq_false_iff_ne]; omega
            have e2 : ((n : Int) == (m : Int)) = false := by
              rw [beq_eq_false_iff_ne]
              intro e
              exact hiG2 (hO.1 (by omega))
            clear hiG2 hO
            go_wp2
            go_roundw
            case rel => exact ⟨i + 1, by omega, by omega, by go_num, ⟨i0, i1, i2, i3⟩, HB, HF⟩
            case measure => simp [intOf] <;> omega
        · have e0 : ((v : Int) == 1) = false := by rw [beq_eq_false_iff_ne]; omega
          have e00 : ((v : Int) != 1) = true := by rw [bne_iff_ne]; omega
          have hqm := HQM.out
          have hn2 := HN.out i n hi1 hlt hnm (fun e => hv1 (hv.out.symm.trans e))
          have hlq : decide ((n : Int) < (D.q : Int)) = true := by rw [decide_eq_true_eq]; omega
          have hvq : v < D.p ^ D.k := by rw [← hv.out]; exact FFld.ppow_lt _ _ _
          obtain ⟨v2, hv2⟩ : ∃ u, FFld.pmul D.p D.k D.m v D.k i = u := ⟨_, rfl⟩
          have hv26 : v2 ≤ 65536 := el_le HD.out (by rw [← hv2]; exact FFld.pmul_lt HD.out.pre.pk _ _ _)
          have HV2 : Kept (FFld.ppow HD.out.pre.pk i (n + 1) = v2) := ⟨by rw [FFld.ppow_succ _ _ _ HIQ.out, hv.out, hv2]⟩
          have HMN : Kept (∀ j, 0 < j → j < n + 1 → FFld.ppow HD.out.pre.pk i j ≠ 1) := ⟨fun j h1 h2 => by
            rcases Nat.lt_or_ge j n with h | h
            · exact hmn.out j h1 h
            · obtain rfl : j = n := by omega
              rw [hv.out]
              exact hv1⟩
          have hMul := Kept.mk (el_mul HF.out hvq HIQ.out hv2)
          clear hv2 hvq hv1 hv hmn hqm
          go_wp2_with fail
          refine hMul.out.mono ?_
          rintro e w5 ⟨hb, rfl⟩
          have j0 := belowCell hb i0
          have j1 := belowCell hb i1
          have j2 := belowCell hb i2
          have j3 := belowCell hb i3
          replace HF := Kept.mk (HF.out.below hb)
          replace HB := Kept.mk (bstep HB.out hb)
          clear hb hMul i0 i1 i2 i3
          go_wp2
          go_roundw
          case rel => exact ⟨n + 1, v2, by omega, by omega, by omega, by go_num, rfl, HV2, HMN, ⟨j0, j1, j2, j3⟩, HB, HF⟩
          case measure => simp [intOf] <;> omega
    · obtain rfl : i = G + 1 := by omega
      go_upto_region 12 with fail
      exact fieldOrders_end HD HG hq2 x0 x1 y0 y1 ⟨i0, i1, i2, i3⟩ HB HF (by assumption)
end Go.Proofs.Ytfhhnfpapgfnmaa
