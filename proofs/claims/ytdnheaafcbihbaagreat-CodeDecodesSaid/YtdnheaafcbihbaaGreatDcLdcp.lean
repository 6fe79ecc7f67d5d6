/-
  dauberlaw03.CodeDecodes: whatever arguments come in, the law returns true, and its arguments read as before; no condition.
-/
import Derived.Test.YtdnheaafcbihbaaGreatDc35
import Derived.Test.YtdnheaafcbihbaaGreatRows
import Derived.WalkKit
import Derived.ProofKit
import Derived.OpenShut
namespace Go.Proofs.YtdnheaafcbihbaaGreat.codeDecodes
open Go Go.ChangeShapes Go.WideShapes Go.ChangeAt Go.RowKit
open Go.Proofs.YtdnheaafcbihbaaGreat (trodAll_stays i64_bounds open_sl open_code)
set_option linter.unusedVariables false

theorem own : ownKnob Tryz.prog.godebug = none := by kernel_rfl
theorem laid : laidOutB Tryz.prog = true := by kernel_rfl

set_option maxRecDepth 100000 in
theorem lifted (os : Os)(started : os.Started)(H : Type)(enc : TypeId × Value → H) :
    ReturnsInHanded {} Tryz.checked os 5 .any (Rows.codeDecodesSpec.pre6 enc Tryz.prog Tryz.f5 Rows.codeDecodesRow.domain false) (Rows.codeDecodesSpec.post enc Tryz.prog Tryz.f5 false true false false) := by
  refine returnsInHanded_of_change (C := Tryz.checked) own started (by kernel_rfl) Tryz.func5
    (ChangeSpec.witness6 (enc := enc) (C := Tryz.checked) false ⟨#[], #[.agg #[.int .i64 0, .slice none 0 0, .int .i64 0], .slice none 0 0, .slice none 0 0], []⟩ 8 (by kernel_rfl) (by kernel_rfl) (by kernel_rfl) (by kernel_rfl)) ?_
  intro W base args ds gs before hval0 hW hcnd _
  have hval : ∀ (j : Nat) t v, Tryz.f5.params[j]? = some t → args[j]? = some v → Value.okWide Tryz.prog W .any base t v := hval0
  have hW' := hW
  obtain ⟨p, q, hA0, hV, rfl, hfz, hnd⟩ := hW
  have hA : DataW.TrodAll enc Tryz.prog W 0 (fun _ => true) true Tryz.f5.params.toList args.toList ds p := hA0
  have hAk := hA
  rw [Tryz.params5] at hA hval
  obtain ⟨v0, vs0, d0, ds0, p0, q0, hargs, rfl, hp0, h0, r0⟩ := trodAll_cons hA
  obtain ⟨v1, vs1, d1, ds1, p1, q1, rfl, rfl, hp1, h1, r1⟩ := trodAll_cons r0
  obtain ⟨v2, vs2, d2, ds2, p2, q2, rfl, rfl, hp2, h2, r2⟩ := trodAll_cons r1
  obtain ⟨rfl, rfl, hpl⟩ := trodAll_nil r2
  obtain rfl : args = #[v0, v1, v2] := by cases args; simp_all
  obtain ⟨rfl, rfl⟩ := trodVars_none hV
  obtain ⟨o0, ao0, n0, cap0, k0, xs0, rfl, l0, s0, w0, x0, y0⟩ := open_code Tryz.underlying24 rfl rfl rfl (show Tryz.prog.cellsOf 3 = 1 by kernel_rfl) (show Tryz.prog.cellsOf 22 = 1 by kernel_rfl) (show Tryz.prog.cellsOf 3 = 1 by kernel_rfl) Tryz.underlying3 Tryz.underlying22 Tryz.underlying3 Tryz.underlying3 (show Tryz.prog.cellsOf 24 = 3 by kernel_rfl) (show Tryz.prog.cellsOf 3 = 1 by kernel_rfl) (hval 0 24 v0 rfl rfl) h0
  obtain ⟨xs1, s1, w1⟩ := open_sl Tryz.underlying22 Tryz.underlying3 (show Tryz.prog.cellsOf 3 = 1 by kernel_rfl) (hval 1 22 v1 rfl rfl) h1
  obtain ⟨xs2, s2, w2⟩ := open_sl Tryz.underlying22 Tryz.underlying3 (show Tryz.prog.cellsOf 3 = 1 by kernel_rfl) (hval 2 22 v2 rfl rfl) h2
  clear hA0 hval0 hA
  simp only [List.append_nil] at hW'
  have hlt : ∀ x ∈ p, x.block < W.heap.size := fun x hx => hW'.lt x hx
  refine (Go.Proofs.YtdnheaafcbihbaaGreat.codeDecodes_any o0 ao0 n0 cap0 k0 xs0 v1 xs1 v2 xs2 W l0 s0 w0 (i64_bounds x0).1 (i64_bounds x0).2 (i64_bounds y0).1 (i64_bounds y0).2 s1 w1 s2 w2).mono fun e W' ⟨hg, he⟩ => ?_
  subst he
  exact ⟨_, rfl, Go.Proofs.YtdnheaafcbihbaaGreat.post_of_below (pa := p) (pv := []) hW' (fun _ _ _ => (trodAll_cons_mk (shut_bool Tryz.underlying4 _) trodAll_mk0)) (fun sp hsp => trodAll_stays laid hg (by rw [Tryz.params5]; decide +kernel) hAk hlt hsp) (fun _ _ => rfl) (by simp)
    hg (ok_one (by kernel_rfl) rfl (okWide_bool_mk Tryz.underlying4 _))⟩

theorem fact1 : Tryz.pinned.checked.prog.funcNamed Rows.codeDecodesRow.func = some 5 := by kernel_rfl
theorem fact2 : joinedFacts Tryz.pinned.checked.prog 5 Tryz.f5 Rows.codeDecodesSpec Rows.codeDecodesRow = true := by kernel_rfl
theorem fact3 : Tryz.f5.isInstance Tryz.pinned.checked.prog Rows.codeDecodesRow.origin Rows.codeDecodesRow.targs := of_decide_eq_true (by kernel_rfl)
theorem fact4 : Tryz.f5.isWrapper Tryz.pinned.checked.prog Rows.codeDecodesRow.wrapper Rows.codeDecodesRow.mainSum := by unfold Func.isWrapper; first | (rw [if_pos (by decide +kernel)]; kernel_rfl) | (rw [if_neg (by decide +kernel)]; exact ⟨rfl, rfl⟩)
theorem over : Rows.codeDecodesRow.holds Tryz.pinned (OpenSpec.ofChange Rows.codeDecodesSpec) :=
  OpenClaim.holds_of_wide 5 Tryz.f5 rfl rfl rfl rfl rfl rfl rfl ⟨rfl, rfl, rfl, rfl, rfl⟩ rfl rfl rfl rfl rfl fact1 Tryz.func5 fact2 fact3 fact4
    (fun os started H enc _ => lifted os started H enc)

theorem proved : Rows.CodeDecodesSaid :=
  over
#print axioms proved
end Go.Proofs.YtdnheaafcbihbaaGreat.codeDecodes
