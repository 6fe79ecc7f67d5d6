/-
  Texts of the proof, merged by program: Llo.
-/
import Derived.Test.YtfhhnfpapgfnmaaZLln
set_option linter.unusedVariables false
set_option linter.unusedSimpArgs false
namespace Go.Proofs.Ytfhhnfpapgfnmaa
open Go Go.RowKit Go.Deep
open FFld (ints)
noncomputable def fl3 : Code := seqAt 3 (Try.f14.body.getD .skip)
set_option maxRecDepth 100000 in
set_option maxHeartbeats 16000000 in
theorem fieldLaws_one {D : FFld.FD} {b a bb c sab sbc sabc mab mbc mabc mac dd : Nat} {w v17 : World} {R : Code}
    (D0 : Kept (∀ W, FldB D W b → Calls Try.prog 41 #[.pointer (some ⟨b, 0, none⟩), .int .i64 (a : Nat), .int .i64 (bb : Nat)] W (RB W (.int .i64 (sab : Nat)))))
    (D1 : Kept (∀ W, FldB D W b → Calls Try.prog 41 #[.pointer (some ⟨b, 0, none⟩), .int .i64 (bb : Nat), .int .i64 (a : Nat)] W (RB W (.int .i64 (sab : Nat)))))
    (D2 : Kept (∀ W, FldB D W b → Calls Try.prog 41 #[.pointer (some ⟨b, 0, none⟩), .int .i64 (sab : Nat), .int .i64 (c : Nat)] W (RB W (.int .i64 (sabc : Nat)))))
    (D3 : Kept (∀ W, FldB D W b → Calls Try.prog 41 #[.pointer (some ⟨b, 0, none⟩), .int .i64 (bb : Nat), .int .i64 (c : Nat)] W (RB W (.int .i64 (sbc : Nat)))))
    (D4 : Kept (∀ W, FldB D W b → Calls Try.prog 41 #[.pointer (some ⟨b, 0, none⟩), .int .i64 (a : Nat), .int .i64 (sbc : Nat)] W (RB W (.int .i64 (sabc : Nat)))))
    (D5 : Kept (∀ W, FldB D W b → Calls Try.prog 41 #[.pointer (some ⟨b, 0, none⟩), .int .i64 (mab : Nat), .int .i64 (mac : Nat)] W (RB W (.int .i64 (dd : Nat)))))
    (D6 : Kept (∀ W, FldB D W b → Calls Try.prog 43 #[.pointer (some ⟨b, 0, none⟩), .int .i64 (a : Nat), .int .i64 (bb : Nat)] W (RB W (.int .i64 (mab : Nat)))))
    (D7 : Kept (∀ W, FldB D W b → Calls Try.prog 43 #[.pointer (some ⟨b, 0, none⟩), .int .i64 (bb : Nat), .int .i64 (a : Nat)] W (RB W (.int .i64 (mab : Nat)))))
    (D8 : Kept (∀ W, FldB D W b → Calls Try.prog 43 #[.pointer (some ⟨b, 0, none⟩), .int .i64 (mab : Nat), .int .i64 (c : Nat)] W (RB W (.int .i64 (mabc : Nat)))))
    (D9 : Kept (∀ W, FldB D W b → Calls Try.prog 43 #[.pointer (some ⟨b, 0, none⟩), .int .i64 (bb : Nat), .int .i64 (c : Nat)] W (RB W (.int .i64 (mbc : Nat)))))
    (D10 : Kept (∀ W, FldB D W b → Calls Try.prog 43 #[.pointer (some ⟨b, 0, none⟩), .int .i64 (a : Nat), .int .i64 (mbc : Nat)] W (RB W (.int .i64 (mabc : Nat)))))
    (D11 : Kept (∀ W, FldB D W b → Calls Try.prog 43 #[.pointer (some ⟨b, 0, none⟩), .int .i64 (a : Nat), .int .i64 (sbc : Nat)] W (RB W (.int .i64 (dd : Nat)))))
    (D12 : Kept (∀ W, FldB D W b → Calls Try.prog 43 #[.pointer (some ⟨b, 0, none⟩), .int .i64 (a : Nat), .int .i64 (c : Nat)] W (RB W (.int .i64 (mac : Nat)))))
    (HR : Kept (FlRest R D b a bb w))
    {t0 t1 t2 t3 t4 t6 t10 t11 t12 t13 t14 t15 t16 t17 t18 t19 t20 t21 t22 t23 t24 t25 t26 t27 t28 t29 t30 t31 t32 t33 t34 t35 t36 t37 t38 t39 t40 t41 t42 t43 t44 t45 t46 t47 t48 t49 t50 t51 t52 t53 t54 t55 t56 t57 t58 t59 t60 t61 t62 t63 t64 t65 t66 t67 t68 t69 t70 t71 t72 t73 t74 t75 t76 t77 t78 t79 t80 t81 t82 t83 t84 t85 t86 t87 t88 t89 t90 t91 t92 t93 t94 t95 t96 t97 t98 t99 t100 t101 t102 t103 t104 t105 t106 t107 t108 t109 t110 t111 t112 t113 t114 t115 t116 t117 t118 t119 t120 t121 t122 t123 t124 t125 t126 t127 t128 t129 t130 t131 t132 t133 t134 t135 t136 t137 t138 t139 t140 t141 t142 t143 t144 t145 t146 t147 t148 t149 t150 t151 t152 t153 t154 t155 t156 t157 t158 t159 t160 t161 t162 t163 t164 t165 t166 t167 t168 t169 t170 t171 t172 t173 t174 t175 t176 t177 t178 t179 t180 t181 t182 t183 t184 t185 t186 t187 t188 t189 t190 t191 t192 t193 t194 t195 t196 t197 t198 t199 t200 t201 t202 t203 t204 t205 t206 t207 t208 t209 t210 t211 t212 t213 t214 t215 t216 t217 t218 t219 t220 t221 t222 t223 t224 t225 t226 t227 t228 t229 t230 t231 t232 t233 t234 t235 t236 t237 t238 t239 t240 t241 t242 t243 t244 t245 t246 t247 t248 t249 t250 t251 : Value} (HB : Kept (Below w.heap.size w v17)) (HF : Kept (FldB D v17 b)) :
    Code.wp Try.prog (.seq (fstOf fl3) R) (bodyPost Try.prog Try.f14 (RB w (.bool true))) ⟨#[t0, t1, t2, t3, t4, .pointer (some ⟨b, 0, none⟩), t6, .int .i64 a, .int .i64 bb, .int .i64 c, t10, t11, t12, t13, t14, t15, t16, t17, t18, t19, t20, t21, t22, t23, t24, t25, t26, t27, t28, t29, t30, t31, t32, t33, t34, t35, t36, t37, t38, t39, t40, t41, t42, t43, t44, t45, t46, t47, t48, t49, t50, t51, t52, t53, t54, t55, t56, t57, t58, t59, t60, t61, t62, t63, t64, t65, t66, t67, t68, t69, t70, t71, t72, t73, t74, t75, t76, t77, t78, t79, t80, t81, t82, t83, t84, t85, t86, t87, t88, t89, t90, t91, t92, t93, t94, t95, t96, t97, t98, t99, t100, t101, t102, t103, t104, t105, t106, t107, t108, t109, t110, t111, t112, t113, t114, t115, t116, t117, t118, t119, t120, t121, t122, t123, t124, t125, t126, t127, t128, t129, t130, t131, t132, t133, t134, t135, t136, t137, t138, t139, t140, t141, t142, t143, t144, t145, t146, t147, t148, t149, t150, t151, t152, t153, t154, t155, t156, t157, t158, t159, t160, t161, t162, t163, t164, t165, t166, t167, t168, t169, t170, t171, t172, t173, t174, t175, t176, t177, t178, t179, t180, t181, t182, t183, t184, t185, t186, t187, t188, t189, t190, t191, t192, t193, t194, t195, t196, t197, t198, t199, t200, t201, t202, t203, t204, t205, t206, t207, t208, t209, t210, t211, t212, t213, t214, t215, t216, t217, t218, t219, t220, t221, t222, t223, t224, t225, t226, t227, t228, t229, t230, t231, t232, t233, t234, t235, t236, t237, t238, t239, t240, t241, t242, t243, t244, t245, t246, t247, t248, t249, t250, t251], []⟩ v17 := by
  conv => arg 2; arg 1; whnf
  go_wp2_with fail
  refine (D0.out _ HF.out).mono ?_
  rintro e u1 ⟨hb, rfl⟩
  replace HB := Kept.mk (bstep HB.out hb)
  replace HF := Kept.mk (HF.out.below hb)
  clear hb
  go_wp2_with fail
  refine (D1.out _ HF.out).mono ?_
  rintro e u2 ⟨hb, rfl⟩
  replace HB := Kept.mk (bstep HB.out hb)
  replace HF := Kept.mk (HF.out.below hb)
  clear hb
  go_wp2_with fail
  refine (D6.out _ HF.out).mono ?_
  rintro e u3 ⟨hb, rfl⟩
  replace HB := Kept.mk (bstep HB.out hb)
  replace HF := Kept.mk (HF.out.below hb)
  clear hb
  go_wp2_with fail
  refine (D7.out _ HF.out).mono ?_
  rintro e u4 ⟨hb, rfl⟩
  replace HB := Kept.mk (bstep HB.out hb)
  replace HF := Kept.mk (HF.out.below hb)
  clear hb
  go_wp2_with fail
  refine (D0.out _ HF.out).mono ?_
  rintro e u5 ⟨hb, rfl⟩
  replace HB := Kept.mk (bstep HB.out hb)
  replace HF := Kept.mk (HF.out.below hb)
  clear hb
  go_wp2_with fail
  refine (D2.out _ HF.out).mono ?_
  rintro e u6 ⟨hb, rfl⟩
  replace HB := Kept.mk (bstep HB.out hb)
  replace HF := Kept.mk (HF.out.below hb)
  clear hb
  go_wp2_with fail
  refine (D3.out _ HF.out).mono ?_
  rintro e u7 ⟨hb, rfl⟩
  replace HB := Kept.mk (bstep HB.out hb)
  replace HF := Kept.mk (HF.out.below hb)
  clear hb
  go_wp2_with fail
  refine (D4.out _ HF.out).mono ?_
  rintro e u8 ⟨hb, rfl⟩
  replace HB := Kept.mk (bstep HB.out hb)
  replace HF := Kept.mk (HF.out.below hb)
  clear hb
  go_wp2_with fail
  refine (D6.out _ HF.out).mono ?_
  rintro e u9 ⟨hb, rfl⟩
  replace HB := Kept.mk (bstep HB.out hb)
  replace HF := Kept.mk (HF.out.below hb)
  clear hb
  go_wp2_with fail
  refine (D8.out _ HF.out).mono ?_
  rintro e u10 ⟨hb, rfl⟩
  replace HB := Kept.mk (bstep HB.out hb)
  replace HF := Kept.mk (HF.out.below hb)
  clear hb
  go_wp2_with fail
  refine (D9.out _ HF.out).mono ?_
  rintro e u11 ⟨hb, rfl⟩
  replace HB := Kept.mk (bstep HB.out hb)
  replace HF := Kept.mk (HF.out.below hb)
  clear hb
  go_wp2_with fail
  refine (D10.out _ HF.out).mono ?_
  rintro e u12 ⟨hb, rfl⟩
  replace HB := Kept.mk (bstep HB.out hb)
  replace HF := Kept.mk (HF.out.below hb)
  clear hb
  go_wp2_with fail
  refine (D3.out _ HF.out).mono ?_
  rintro e u13 ⟨hb, rfl⟩
  replace HB := Kept.mk (bstep HB.out hb)
  replace HF := Kept.mk (HF.out.below hb)
  clear hb
  go_wp2_with fail
  refine (D11.out _ HF.out).mono ?_
  rintro e u14 ⟨hb, rfl⟩
  replace HB := Kept.mk (bstep HB.out hb)
  replace HF := Kept.mk (HF.out.below hb)
  clear hb
  go_wp2_with fail
  refine (D6.out _ HF.out).mono ?_
  rintro e u15 ⟨hb, rfl⟩
  replace HB := Kept.mk (bstep HB.out hb)
  replace HF := Kept.mk (HF.out.below hb)
  clear hb
  go_wp2_with fail
  refine (D12.out _ HF.out).mono ?_
  rintro e u16 ⟨hb, rfl⟩
  replace HB := Kept.mk (bstep HB.out hb)
  replace HF := Kept.mk (HF.out.below hb)
  clear hb
  go_wp2_with fail
  refine (D5.out _ HF.out).mono ?_
  rintro e u17 ⟨hb, rfl⟩
  replace HB := Kept.mk (bstep HB.out hb)
  replace HF := Kept.mk (HF.out.below hb)
  clear hb
  go_wp2
  exact HR.out _ HB HF
end Go.Proofs.Ytfhhnfpapgfnmaa
