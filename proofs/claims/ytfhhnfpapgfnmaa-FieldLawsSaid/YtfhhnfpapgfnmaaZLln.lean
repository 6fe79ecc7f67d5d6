/-
  Texts of the proof, merged by program: Cut Llb Llm Lln.
-/
import Derived.Test.YtfhhnfpapgfnmaaZLla
set_option linter.unusedVariables false
namespace Go.Proofs.Ytfhhnfpapgfnmaa
open Go Go.RowKit Go.Deep
def headIs (n : Nat) : Code → Bool
  | .region m _ _ => Nat.beq m n
  | .seq a _ => headIs n a
  | _ => false
def seqAt (n : Nat) : Code → Code
  | .seq a b => match headIs n a with
    | true => .seq a b
    | false => seqAt n b
  | .scope c => seqAt n c
  | .block _ c => seqAt n c
  | c => c
def fstOf : Code → Code
  | .seq a _ => a
  | c => c
def sndOf : Code → Code
  | .seq _ b => b
  | c => c
def loopOf : Code → Code
  | .loop c => c
  | .seq _ b => loopOf b
  | .block _ c => loopOf c
  | c => c
end Go.Proofs.Ytfhhnfpapgfnmaa

set_option linter.unusedVariables false
set_option linter.unusedSimpArgs false
namespace Go.Proofs.Ytfhhnfpapgfnmaa
open Go Go.RowKit Go.Deep
open FFld (ints)
noncomputable def fl7 : Code := seqAt 7 (Try.f14.body.getD .skip)
set_option maxRecDepth 100000 in
set_option maxHeartbeats 16000000 in
theorem fieldLaws_end {D : FFld.FD} {b a bb sab : Nat} {w u17 : World} (HD : Kept D.Ok) (ha : a < D.p ^ D.k) (hbb : bb < D.p ^ D.k) (qsab : sab < D.p ^ D.k) (G1 : Kept (FFld.padd D.p D.k a bb = sab))
    {t0 t1 t2 t3 t4 t6 t9 t10 t11 t12 t13 t14 t15 t16 t17 t18 t19 t20 t21 t22 t23 t24 t25 t26 t27 t28 t29 t30 t31 t32 t33 t34 t35 t36 t37 t38 t39 t40 t41 t42 t43 t44 t45 t46 t47 t48 t49 t50 t51 t52 t53 t54 t55 t56 t57 t58 t59 t60 t61 t62 t63 t64 t65 t66 t67 t68 t69 t70 t71 t72 t73 t74 t75 t76 t77 t78 t79 t80 t81 t82 t83 t84 t85 t86 t87 t88 t89 t90 t91 t92 t93 t94 t95 t96 t97 t98 t99 t100 t101 t102 t103 t104 t105 t106 t107 t108 t109 t110 t111 t112 t113 t114 t115 t116 t117 t118 t119 t120 t121 t122 t123 t124 t125 t126 t127 t128 t129 t130 t131 t132 t133 t134 t135 t136 t137 t138 t139 t140 t141 t142 t143 t144 t145 t146 t147 t148 t149 t150 t151 t152 t153 t154 t155 t156 t157 t158 t159 t160 t161 t162 t163 t164 t165 t166 t167 t168 t169 t170 t171 t172 t173 t174 t175 t176 t177 t178 t179 t180 t181 t182 t183 t184 t185 t186 t187 t188 t189 t190 t191 t192 t193 t194 t195 t196 t197 t198 t199 t200 t201 t202 t203 t204 t205 t206 t207 t208 t209 t210 t211 t212 t213 t214 t215 t216 t217 t218 t219 t220 t221 t222 t223 t224 t225 t226 t227 t228 t229 t230 t231 t232 t233 t234 t235 t236 t237 t238 t239 t240 t241 t242 t243 t244 t245 t246 t247 t248 t249 t250 t251 : Value} (HB : Kept (Below w.heap.size w u17)) (HF : Kept (FldB D u17 b)) :
    Code.wp Try.prog (sndOf fl7) (bodyPost Try.prog Try.f14 (RB w (.bool true))) ⟨#[t0, t1, t2, t3, t4, .pointer (some ⟨b, 0, none⟩), t6, .int .i64 a, .int .i64 bb, t9, t10, t11, t12, t13, t14, t15, t16, t17, t18, t19, t20, t21, t22, t23, t24, t25, t26, t27, t28, t29, t30, t31, t32, t33, t34, t35, t36, t37, t38, t39, t40, t41, t42, t43, t44, t45, t46, t47, t48, t49, t50, t51, t52, t53, t54, t55, t56, t57, t58, t59, t60, t61, t62, t63, t64, t65, t66, t67, t68, t69, t70, t71, t72, t73, t74, t75, t76, t77, t78, t79, t80, t81, t82, t83, t84, t85, t86, t87, t88, t89, t90, t91, t92, t93, t94, t95, t96, t97, t98, t99, t100, t101, t102, t103, t104, t105, t106, t107, t108, t109, t110, t111, t112, t113, t114, t115, t116, t117, t118, t119, t120, t121, t122, t123, t124, t125, t126, t127, t128, t129, t130, t131, t132, t133, t134, t135, t136, t137, t138, t139, t140, t141, t142, t143, t144, t145, t146, t147, t148, t149, t150, t151, t152, t153, t154, t155, t156, t157, t158, t159, t160, t161, t162, t163, t164, t165, t166, t167, t168, t169, t170, t171, t172, t173, t174, t175, t176, t177, t178, t179, t180, t181, t182, t183, t184, t185, t186, t187, t188, t189, t190, t191, t192, t193, t194, t195, t196, t197, t198, t199, t200, t201, t202, t203, t204, t205, t206, t207, t208, t209, t210, t211, t212, t213, t214, t215, t216, t217, t218, t219, t220, t221, t222, t223, t224, t225, t226, t227, t228, t229, t230, t231, t232, t233, t234, t235, t236, t237, t238, t239, t240, t241, t242, t243, t244, t245, t246, t247, t248, t249, t250, t251], []⟩ u17 := by
  conv => arg 2; whnf
  have hq6 : D.p ^ D.k ≤ 65536 := HD.out.pre.small
  have hq6' : D.q ≤ 65536 := HD.out.pre.small
  have hpk := HD.out.pre.pk
  have hq1 : 1 < D.p ^ D.k := hpk.one_lt
  have hq1' : 1 ≤ D.q := Nat.le_of_lt hpk.one_lt
  have ha6 := el_le HD.out ha
  have hb6 := el_le HD.out hbb
  have hPr := Kept.mk (fprime_any _ HF.out)
  go_wp2_with fail
  refine hPr.out.mono ?_
  rintro e u50 hR
  obtain ⟨hb, rfl⟩ := hR.rb
  replace HB := Kept.mk (bstep HB.out hb)
  replace HF := Kept.mk (HF.out.below hb)
  clear hb hPr hR
  have HPK : Kept (∀ i, i ≤ D.k → D.p ^ i ≤ 65536) := ⟨fun i hi => Nat.le_trans (Nat.pow_le_pow_right (by have := hpk.p2; omega) hi) hq6⟩
  obtain ⟨k, hk⟩ : ∃ k, D.k = k := ⟨_, rfl⟩
  obtain ⟨p, hp⟩ : ∃ p, D.p = p := ⟨_, rfl⟩
  have HK := Kept.mk hk
  have HP := Kept.mk hp
  have hp6 : p ≤ 65536 := by rw [← hp]; exact HD.out.p6
  have hp2 : 2 ≤ p := by rw [← hp]; exact hpk.p2
  have hk40 : k ≤ 40 := by rw [← hk]; exact FFld.len_of_pow (Nat.pow_le_pow_left hpk.p2 _) (show D.p ^ D.k ≤ 1099511627776 by omega)
  have HQA := Kept.mk ha
  have HQB := Kept.mk hbb
  have HQS := Kept.mk qsab
  have HPKD := Kept.mk hpk
  have HQ1 := Kept.mk hq1
  rw [hk, hp]
  clear hk hp ha hbb qsab hpk hq1 hq6 hq6' hq1'
  go_wp2
  go_loopw [15, 16] (fun nv iv wr => ∃ (i n : Nat), i ≤ k ∧ iv = .int .i64 i ∧ nv = .int .i64 n ∧ Kept (D.p ^ i = n) ∧ u50 = wr) (fun _ iv _ => k - (intOf iv).toNat)
  case atStart => exact ⟨0, 1, Nat.zero_le _, rfl, rfl, ⟨Nat.pow_zero _⟩, rfl⟩
  case round =>
    obtain ⟨i, n, hik, rfl, rfl, hn, rfl⟩ := hrel
    by_cases hlt : i < k
    · obtain ⟨n2, hn2⟩ : ∃ n2, n * p = n2 := ⟨_, rfl⟩
      have HN2 : Kept (D.p ^ (i + 1) = n2) := ⟨by rw [Nat.pow_succ, hn.out, HP.out, hn2]⟩
      have h65 : n2 ≤ 65536 := by rw [← HN2.out]; exact HPK.out _ (by rw [HK.out]; omega)
      have e1 : wrap64 ((n : Int) * p) = n2 := wmul hn2 (by omega)
      have e2 : IntKind.i64.wrap ((n : Int) * p) = n2 := wimul hn2 (by omega)
      clear hn2 hn
      go_wp2
      go_roundw
      case rel => exact ⟨i + 1, n2, by omega, by go_num, by first | rfl | (congr 1; omega) | (rw [e1]) | (rw [e2]), HN2, trivial⟩
      case measure => simp [intOf] <;> omega
    · obtain rfl : i = k := by omega
      have hn65 : n ≤ 65536 := by rw [← hn.out]; exact HPK.out _ (by rw [HK.out]; exact Nat.le_refl _)
      have HN : Kept (D.p ^ D.k = n) := ⟨by rw [HK.out]; exact hn.out⟩
      clear hn HPK
      go_wp2
      go_loopw [14, 17] (fun sv iv wr => ∃ (j s : Nat), j ≤ p ∧ iv = .int .i64 j ∧ sv = .int .i64 s ∧ Kept (FFld.pscl D.p D.k j a = s) ∧ Kept (Below u50.heap.size u50 wr)) (fun _ iv _ => p - (intOf iv).toNat)
      case atStart => exact ⟨0, 0, Nat.zero_le _, rfl, rfl, ⟨FFld.pscl_zero HPKD.out a⟩, ⟨Below.refl _ _⟩⟩
      case round =>
        obtain ⟨j, s, hjp, rfl, rfl, hs, hbw⟩ := hrel
        by_cases hlt2 : j < p
        · obtain ⟨s2, hs2⟩ : ∃ s2, FFld.padd D.p D.k s a = s2 := ⟨_, rfl⟩
          have HS2 : Kept (FFld.pscl D.p D.k (j + 1) a = s2) := ⟨by rw [FFld.pscl_sum HPKD.out, FFld.pscl_one HPKD.out a HQA.out, hs.out, hs2]⟩
          have hsq : s < D.p ^ D.k := by rw [← hs.out]; exact FFld.pscl_lt HPKD.out _ _
          have hA := Kept.mk (el_add (HF.out.below hbw.out) hsq HQA.out hs2)
          clear hs2 hsq hs
          go_wp2_with fail
          refine hA.out.mono ?_
          rintro e v1 ⟨hb, rfl⟩
          have HBV := Kept.mk (bstep hbw.out hb)
          clear hb hA
          go_wp2
          go_roundw
          case rel => exact ⟨j + 1, s2, by omega, by go_num, rfl, HS2, HBV⟩
          case measure => simp [intOf] <;> omega
        · obtain rfl : j = p := by omega
          have hs0 : s = 0 := by rw [← hs.out, ← HP.out]; exact FFld.pscl_p HPKD.out a
          subst hs0
          replace HF := Kept.mk (HF.out.below hbw.out)
          replace HB := Kept.mk (bstep HB.out hbw.out)
          have P1 : Kept (FFld.ppow HD.out.pre.pk a n = a) := ⟨by rw [← HN.out]; exact HD.out.pow_q HQA.out⟩
          obtain ⟨u, hu⟩ : ∃ v, FFld.ppow HD.out.pre.pk sab j = v := ⟨_, rfl⟩
          obtain ⟨va, hva⟩ : ∃ v, FFld.ppow HD.out.pre.pk a j = v := ⟨_, rfl⟩
          obtain ⟨vb, hvb⟩ : ∃ v, FFld.ppow HD.out.pre.pk bb j = v := ⟨_, rfl⟩
          have P2 : Kept (FFld.padd D.p D.k va vb = u) := ⟨by rw [← hva, ← hvb, ← hu, ← G1.out, ← HP.out]; exact (HD.out.frob HQA.out HQB.out).symm⟩
          have Q1 : va < D.p ^ D.k := by rw [← hva]; exact FFld.ppow_lt _ _ _
          have Q2 : vb < D.p ^ D.k := by rw [← hvb]; exact FFld.ppow_lt _ _ _
          have hn0 : 0 < n := by have := HQ1.out; rw [HN.out] at this; omega
          have HU := Kept.mk hu
          have HVA := Kept.mk hva
          have HVB := Kept.mk hvb
          have CQ := Kept.mk (fun W (hf : FldB D W b) => show Calls Try.prog 21 #[.pointer (some ⟨b, 0, none⟩)] W (RB W (.int .i64 n)) from by
            have := order_any W hf
            rw [show D.q = n from HN.out] at this
            exact this.mono fun e w' ⟨h1, h2⟩ => ⟨h1 ▸ Below.refl _ _, h2⟩)
          clear hu hva hvb hbw hs
          go_wp2_with fail
          refine (el_pow HF.out HQA.out hn0 P1.out).mono ?_
          rintro e u24 ⟨hb, rfl⟩
          replace HB := Kept.mk (bstep HB.out hb)
          replace HF := Kept.mk (HF.out.below hb)
          clear hb
          go_wp2_with fail
          refine (el_add HF.out HQA.out HQB.out G1.out).mono ?_
          rintro e u25 ⟨hb, rfl⟩
          replace HB := Kept.mk (bstep HB.out hb)
          replace HF := Kept.mk (HF.out.below hb)
          clear hb
          go_wp2_with fail
          refine (el_pow HF.out HQS.out (by omega) HU.out).mono ?_
          rintro e u26 ⟨hb, rfl⟩
          replace HB := Kept.mk (bstep HB.out hb)
          replace HF := Kept.mk (HF.out.below hb)
          clear hb
          go_wp2_with fail
          refine (el_pow HF.out HQA.out (by omega) HVA.out).mono ?_
          rintro e u27 ⟨hb, rfl⟩
          replace HB := Kept.mk (bstep HB.out hb)
          replace HF := Kept.mk (HF.out.below hb)
          clear hb
          go_wp2_with fail
          refine (el_pow HF.out HQB.out (by omega) HVB.out).mono ?_
          rintro e u28 ⟨hb, rfl⟩
          replace HB := Kept.mk (bstep HB.out hb)
          replace HF := Kept.mk (HF.out.below hb)
          clear hb
          go_wp2_with fail
          refine (CQ.out _ HF.out).mono ?_
          rintro e u29 ⟨hb, rfl⟩
          replace HB := Kept.mk (bstep HB.out hb)
          replace HF := Kept.mk (HF.out.below hb)
          clear hb
          go_wp2_with fail
          refine (el_add HF.out Q1 Q2 P2.out).mono ?_
          rintro e u30 ⟨hb, rfl⟩
          replace HB := Kept.mk (bstep HB.out hb)
          replace HF := Kept.mk (HF.out.below hb)
          clear hb
          go_wp2_with fail
          refine (awake_any _).mono ?_
          rintro e u90 ⟨hb, rfl⟩
          replace HB := Kept.mk (bstep HB.out hb)
          clear hb
          go_wp2
          go_ret
          exact ⟨HB.out, rfl⟩
end Go.Proofs.Ytfhhnfpapgfnmaa

set_option linter.unusedVariables false
set_option linter.unusedSimpArgs false
namespace Go.Proofs.Ytfhhnfpapgfnmaa
open Go Go.RowKit Go.Deep
open FFld (ints)
set_option maxRecDepth 100000 in
def FlRest (R : Code) (D : FFld.FD) (b a bb : Nat) (w : World) : Prop :=
  ∀ {t0 t1 t2 t3 t4 t6 t9 t10 t11 t12 t13 t14 t15 t16 t17 t18 t19 t20 t21 t22 t23 t24 t25 t26 t27 t28 t29 t30 t31 t32 t33 t34 t35 t36 t37 t38 t39 t40 t41 t42 t43 t44 t45 t46 t47 t48 t49 t50 t51 t52 t53 t54 t55 t56 t57 t58 t59 t60 t61 t62 t63 t64 t65 t66 t67 t68 t69 t70 t71 t72 t73 t74 t75 t76 t77 t78 t79 t80 t81 t82 t83 t84 t85 t86 t87 t88 t89 t90 t91 t92 t93 t94 t95 t96 t97 t98 t99 t100 t101 t102 t103 t104 t105 t106 t107 t108 t109 t110 t111 t112 t113 t114 t115 t116 t117 t118 t119 t120 t121 t122 t123 t124 t125 t126 t127 t128 t129 t130 t131 t132 t133 t134 t135 t136 t137 t138 t139 t140 t141 t142 t143 t144 t145 t146 t147 t148 t149 t150 t151 t152 t153 t154 t155 t156 t157 t158 t159 t160 t161 t162 t163 t164 t165 t166 t167 t168 t169 t170 t171 t172 t173 t174 t175 t176 t177 t178 t179 t180 t181 t182 t183 t184 t185 t186 t187 t188 t189 t190 t191 t192 t193 t194 t195 t196 t197 t198 t199 t200 t201 t202 t203 t204 t205 t206 t207 t208 t209 t210 t211 t212 t213 t214 t215 t216 t217 t218 t219 t220 t221 t222 t223 t224 t225 t226 t227 t228 t229 t230 t231 t232 t233 t234 t235 t236 t237 t238 t239 t240 t241 t242 t243 t244 t245 t246 t247 t248 t249 t250 t251 : Value} (v : World), Kept (Below w.heap.size w v) → Kept (FldB D v b) → Code.wp Try.prog R (bodyPost Try.prog Try.f14 (RB w (.bool true))) ⟨#[t0, t1, t2, t3, t4, .pointer (some ⟨b, 0, none⟩), t6, .int .i64 a, .int .i64 bb, t9, t10, t11, t12, t13, t14, t15, t16, t17, t18, t19, t20, t21, t22, t23, t24, t25, t26, t27, t28, t29, t30, t31, t32, t33, t34, t35, t36, t37, t38, t39, t40, t41, t42, t43, t44, t45, t46, t47, t48, t49, t50, t51, t52, t53, t54, t55, t56, t57, t58, t59, t60, t61, t62, t63, t64, t65, t66, t67, t68, t69, t70, t71, t72, t73, t74, t75, t76, t77, t78, t79, t80, t81, t82, t83, t84, t85, t86, t87, t88, t89, t90, t91, t92, t93, t94, t95, t96, t97, t98, t99, t100, t101, t102, t103, t104, t105, t106, t107, t108, t109, t110, t111, t112, t113, t114, t115, t116, t117, t118, t119, t120, t121, t122, t123, t124, t125, t126, t127, t128, t129, t130, t131, t132, t133, t134, t135, t136, t137, t138, t139, t140, t141, t142, t143, t144, t145, t146, t147, t148, t149, t150, t151, t152, t153, t154, t155, t156, t157, t158, t159, t160, t161, t162, t163, t164, t165, t166, t167, t168, t169, t170, t171, t172, t173, t174, t175, t176, t177, t178, t179, t180, t181, t182, t183, t184, t185, t186, t187, t188, t189, t190, t191, t192, t193, t194, t195, t196, t197, t198, t199, t200, t201, t202, t203, t204, t205, t206, t207, t208, t209, t210, t211, t212, t213, t214, t215, t216, t217, t218, t219, t220, t221, t222, t223, t224, t225, t226, t227, t228, t229, t230, t231, t232, t233, t234, t235, t236, t237, t238, t239, t240, t241, t242, t243, t244, t245, t246, t247, t248, t249, t250, t251], []⟩ v
set_option maxRecDepth 100000 in
set_option maxHeartbeats 16000000 in
theorem fieldLaws_mid {D : FFld.FD} {b a bb mab : Nat} {w u17 : World} {R : Code} (HD : Kept D.Ok) (ha : a < D.p ^ D.k) (hbb : bb < D.p ^ D.k) (qmab : mab < D.p ^ D.k) (G2 : Kept (FFld.pmul D.p D.k D.m a D.k bb = mab)) (F9 : Kept (bb ≠ 0 → FFld.pmul D.p D.k D.m mab D.k (FFld.ppow HD.out.pre.pk bb (D.q - 2)) = a))
    (HR : Kept (FlRest R D b a bb w))
    {t0 t1 t2 t3 t4 t6 t9 t10 t11 t12 t13 t14 t15 t16 t17 t18 t19 t20 t21 t22 t23 t24 t25 t26 t27 t28 t29 t30 t31 t32 t33 t34 t35 t36 t37 t38 t39 t40 t41 t42 t43 t44 t45 t46 t47 t48 t49 t50 t51 t52 t53 t54 t55 t56 t57 t58 t59 t60 t61 t62 t63 t64 t65 t66 t67 t68 t69 t70 t71 t72 t73 t74 t75 t76 t77 t78 t79 t80 t81 t82 t83 t84 t85 t86 t87 t88 t89 t90 t91 t92 t93 t94 t95 t96 t97 t98 t99 t100 t101 t102 t103 t104 t105 t106 t107 t108 t109 t110 t111 t112 t113 t114 t115 t116 t117 t118 t119 t120 t121 t122 t123 t124 t125 t126 t127 t128 t129 t130 t131 t132 t133 t134 t135 t136 t137 t138 t139 t140 t141 t142 t143 t144 t145 t146 t147 t148 t149 t150 t151 t152 t153 t154 t155 t156 t157 t158 t159 t160 t161 t162 t163 t164 t165 t166 t167 t168 t169 t170 t171 t172 t173 t174 t175 t176 t177 t178 t179 t180 t181 t182 t183 t184 t185 t186 t187 t188 t189 t190 t191 t192 t193 t194 t195 t196 t197 t198 t199 t200 t201 t202 t203 t204 t205 t206 t207 t208 t209 t210 t211 t212 t213 t214 t215 t216 t217 t218 t219 t220 t221 t222 t223 t224 t225 t226 t227 t228 t229 t230 t231 t232 t233 t234 t235 t236 t237 t238 t239 t240 t241 t242 t243 t244 t245 t246 t247 t248 t249 t250 t251 : Value} (HB : Kept (Below w.heap.size w u17)) (HF : Kept (FldB D u17 b)) :
    Code.wp Try.prog (.seq (fstOf fl7) R) (bodyPost Try.prog Try.f14 (RB w (.bool true))) ⟨#[t0, t1, t2, t3, t4, .pointer (some ⟨b, 0, none⟩), t6, .int .i64 a, .int .i64 bb, t9, t10, t11, t12, t13, t14, t15, t16, t17, t18, t19, t20, t21, t22, t23, t24, t25, t26, t27, t28, t29, t30, t31, t32, t33, t34, t35, t36, t37, t38, t39, t40, t41, t42, t43, t44, t45, t46, t47, t48, t49, t50, t51, t52, t53, t54, t55, t56, t57, t58, t59, t60, t61, t62, t63, t64, t65, t66, t67, t68, t69, t70, t71, t72, t73, t74, t75, t76, t77, t78, t79, t80, t81, t82, t83, t84, t85, t86, t87, t88, t89, t90, t91, t92, t93, t94, t95, t96, t97, t98, t99, t100, t101, t102, t103, t104, t105, t106, t107, t108, t109, t110, t111, t112, t113, t114, t115, t116, t117, t118, t119, t120, t121, t122, t123, t124, t125, t126, t127, t128, t129, t130, t131, t132, t133, t134, t135, t136, t137, t138, t139, t140, t141, t142, t143, t144, t145, t146, t147, t148, t149, t150, t151, t152, t153, t154, t155, t156, t157, t158, t159, t160, t161, t162, t163, t164, t165, t166, t167, t168, t169, t170, t171, t172, t173, t174, t175, t176, t177, t178, t179, t180, t181, t182, t183, t184, t185, t186, t187, t188, t189, t190, t191, t192, t193, t194, t195, t196, t197, t198, t199, t200, t201, t202, t203, t204, t205, t206, t207, t208, t209, t210, t211, t212, t213, t214, t215, t216, t217, t218, t219, t220, t221, t222, t223, t224, t225, t226, t227, t228, t229, t230, t231, t232, t233, t234, t235, t236, t237, t238, t239, t240, t241, t242, t243, t244, t245, t246, t247, t248, t249, t250, t251], []⟩ u17 := by
  conv => arg 2; arg 1; whnf
  have ha6 := el_le HD.out ha
  have hb6 := el_le HD.out hbb
  by_cases hb0 : bb = 0
  · subst hb0
    have eb0 : (((0 : Nat) : Int) == 0) = true := rfl
    go_wp2
    exact HR.out _ HB HF
  · have eb0 : ((bb : Int) == 0) = false := by rw [beq_eq_false_iff_ne]; omega
    go_wp2_with fail
    refine (el_mul HF.out ha hbb G2.out).mono ?_
    rintro e u22 ⟨hb, rfl⟩
    replace HB := Kept.mk (bstep HB.out hb)
    replace HF := Kept.mk (HF.out.below hb)
    clear hb
    go_wp2_with fail
    refine (el_div HF.out qmab hbb hb0 (F9.out hb0)).mono ?_
    rintro e u23 ⟨hb, rfl⟩
    replace HB := Kept.mk (bstep HB.out hb)
    replace HF := Kept.mk (HF.out.below hb)
    clear hb
    go_wp2
    exact HR.out _ HB HF
end Go.Proofs.Ytfhhnfpapgfnmaa

set_option linter.unusedVariables false
set_option linter.unusedSimpArgs false
namespace Go.Proofs.Ytfhhnfpapgfnmaa
open Go Go.RowKit Go.Deep
open FFld (ints)
noncomputable def fl5 : Code := seqAt 5 (Try.f14.body.getD .skip)
set_option maxRecDepth 100000 in
set_option maxHeartbeats 16000000 in
theorem fieldLaws_two {D : FFld.FD} {b a bb sab : Nat} {w v17 : World} {R : Code} (HD : Kept D.Ok) (ha : a < D.p ^ D.k) (hbb : bb < D.p ^ D.k) (qsab : sab < D.p ^ D.k) (G1 : Kept (FFld.padd D.p D.k a bb = sab)) (F8 : Kept (FFld.padd D.p D.k sab (FFld.pscl D.p D.k (D.p - 1) bb) = a))
    (HR : Kept (FlRest R D b a bb w))
    {t0 t1 t2 t3 t4 t6 t9 t10 t11 t12 t13 t14 t15 t16 t17 t18 t19 t20 t21 t22 t23 t24 t25 t26 t27 t28 t29 t30 t31 t32 t33 t34 t35 t36 t37 t38 t39 t40 t41 t42 t43 t44 t45 t46 t47 t48 t49 t50 t51 t52 t53 t54 t55 t56 t57 t58 t59 t60 t61 t62 t63 t64 t65 t66 t67 t68 t69 t70 t71 t72 t73 t74 t75 t76 t77 t78 t79 t80 t81 t82 t83 t84 t85 t86 t87 t88 t89 t90 t91 t92 t93 t94 t95 t96 t97 t98 t99 t100 t101 t102 t103 t104 t105 t106 t107 t108 t109 t110 t111 t112 t113 t114 t115 t116 t117 t118 t119 t120 t121 t122 t123 t124 t125 t126 t127 t128 t129 t130 t131 t132 t133 t134 t135 t136 t137 t138 t139 t140 t141 t142 t143 t144 t145 t146 t147 t148 t149 t150 t151 t152 t153 t154 t155 t156 t157 t158 t159 t160 t161 t162 t163 t164 t165 t166 t167 t168 t169 t170 t171 t172 t173 t174 t175 t176 t177 t178 t179 t180 t181 t182 t183 t184 t185 t186 t187 t188 t189 t190 t191 t192 t193 t194 t195 t196 t197 t198 t199 t200 t201 t202 t203 t204 t205 t206 t207 t208 t209 t210 t211 t212 t213 t214 t215 t216 t217 t218 t219 t220 t221 t222 t223 t224 t225 t226 t227 t228 t229 t230 t231 t232 t233 t234 t235 t236 t237 t238 t239 t240 t241 t242 t243 t244 t245 t246 t247 t248 t249 t250 t251 : Value} (HB : Kept (Below w.heap.size w v17)) (HF : Kept (FldB D v17 b)) :
    Code.wp Try.prog (.seq (fstOf fl5) R) (bodyPost Try.prog Try.f14 (RB w (.bool true))) ⟨#[t0, t1, t2, t3, t4, .pointer (some ⟨b, 0, none⟩), t6, .int .i64 a, .int .i64 bb, t9, t10, t11, t12, t13, t14, t15, t16, t17, t18, t19, t20, t21, t22, t23, t24, t25, t26, t27, t28, t29, t30, t31, t32, t33, t34, t35, t36, t37, t38, t39, t40, t41, t42, t43, t44, t45, t46, t47, t48, t49, t50, t51, t52, t53, t54, t55, t56, t57, t58, t59, t60, t61, t62, t63, t64, t65, t66, t67, t68, t69, t70, t71, t72, t73, t74, t75, t76, t77, t78, t79, t80, t81, t82, t83, t84, t85, t86, t87, t88, t89, t90, t91, t92, t93, t94, t95, t96, t97, t98, t99, t100, t101, t102, t103, t104, t105, t106, t107, t108, t109, t110, t111, t112, t113, t114, t115, t116, t117, t118, t119, t120, t121, t122, t123, t124, t125, t126, t127, t128, t129, t130, t131, t132, t133, t134, t135, t136, t137, t138, t139, t140, t141, t142, t143, t144, t145, t146, t147, t148, t149, t150, t151, t152, t153, t154, t155, t156, t157, t158, t159, t160, t161, t162, t163, t164, t165, t166, t167, t168, t169, t170, t171, t172, t173, t174, t175, t176, t177, t178, t179, t180, t181, t182, t183, t184, t185, t186, t187, t188, t189, t190, t191, t192, t193, t194, t195, t196, t197, t198, t199, t200, t201, t202, t203, t204, t205, t206, t207, t208, t209, t210, t211, t212, t213, t214, t215, t216, t217, t218, t219, t220, t221, t222, t223, t224, t225, t226, t227, t228, t229, t230, t231, t232, t233, t234, t235, t236, t237, t238, t239, t240, t241, t242, t243, t244, t245, t246, t247, t248, t249, t250, t251], []⟩ v17 := by
  conv => arg 2; arg 1; whnf
  have ha6 := el_le HD.out ha
  have hb6 := el_le HD.out hbb
  have hpk := HD.out.pre.pk
  have hq1 : 1 < D.p ^ D.k := hpk.one_lt
  have C1 := Kept.mk (fun W (hf : FldB D W b) => show Calls Try.prog 41 #[.pointer (some ⟨b, 0, none⟩), .int .i64 a, .int .i64 0] W (RB W (.int .i64 a)) from el_add (y := 0) hf ha (Nat.pow_pos hpk.p0) (FFld.padd_zero hpk a ha))
  have C2 := Kept.mk (fun W (hf : FldB D W b) => show Calls Try.prog 43 #[.pointer (some ⟨b, 0, none⟩), .int .i64 a, .int .i64 1] W (RB W (.int .i64 a)) from el_mul (y := 1) hf ha hq1 (FFld.pmul_by_one hpk a ha))
  have C3 := Kept.mk (fun W (hf : FldB D W b) => el_add (W := W) hf ha hbb G1.out)
  have C4 := Kept.mk (fun W (hf : FldB D W b) => el_sub (W := W) hf qsab hbb F8.out)
  clear ha hbb qsab G1 F8 hpk hq1
  go_wp2_with fail
  refine (C1.out _ HF.out).mono ?_
  rintro e u1 ⟨hb, rfl⟩
  replace HB := Kept.mk (bstep HB.out hb)
  replace HF := Kept.mk (HF.out.below hb)
  clear hb
  go_wp2_with fail
  refine (C2.out _ HF.out).mono ?_
  rintro e u2 ⟨hb, rfl⟩
  replace HB := Kept.mk (bstep HB.out hb)
  replace HF := Kept.mk (HF.out.below hb)
  clear hb
  go_wp2_with fail
  refine (C3.out _ HF.out).mono ?_
  rintro e u3 ⟨hb, rfl⟩
  replace HB := Kept.mk (bstep HB.out hb)
  replace HF := Kept.mk (HF.out.below hb)
  clear hb
  go_wp2_with fail
  refine (C4.out _ HF.out).mono ?_
  rintro e u4 ⟨hb, rfl⟩
  replace HB := Kept.mk (bstep HB.out hb)
  replace HF := Kept.mk (HF.out.below hb)
  clear hb
  go_wp2
  exact HR.out _ HB HF
end Go.Proofs.Ytfhhnfpapgfnmaa
