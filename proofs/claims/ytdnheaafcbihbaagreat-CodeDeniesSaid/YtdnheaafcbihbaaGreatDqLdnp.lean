/-
  dauberlaw03.CodeDenies: whatever arguments come in, the law returns true, and its arguments read as before; no condition.
-/
import Derived.Test.YtdnheaafcbihbaaGreatDq31
import Derived.Test.YtdnheaafcbihbaaGreatRows
import Derived.WalkKit
import Derived.ProofKit
import Derived.OpenShut
namespace Go.Proofs.YtdnheaafcbihbaaGreat.codeDenies
open Go Go.ChangeShapes Go.WideShapes Go.ChangeAt Go.RowKit
open Go.Proofs.YtdnheaafcbihbaaGreat (trodAll_stays i64_bounds open_duo open_code)
set_option linter.unusedVariables false

theorem own : ownKnob Tryz.prog.godebug = none := by kernel_rfl
theorem laid : laidOutB Tryz.prog = true := by kernel_rfl

set_option maxRecDepth 100000 in
theorem lifted (os : Os) (started : os.Started) (H : Type) (enc : TypeId × Value → H) :
    ReturnsInHanded {} Tryz.checked os 6 .any (Rows.codeDeniesSpec.pre6 enc Tryz.prog Tryz.f6 Rows.codeDeniesRow.domain false) (Rows.codeDeniesSpec.post enc Tryz.prog Tryz.f6 false true false false) := by
  refine returnsInHanded_of_change (C := Tryz.checked) own started (by kernel_rfl) Tryz.func6
    (ChangeSpec.witness6 (enc := enc) (C := Tryz.checked) false ⟨#[], #[.agg #[.int .i64 0, .slice none 0 0, .int .i64 0], .agg #[.slice none 0 0, .slice none 0 0], .agg #[.slice none 0 0, .slice none 0 0]], []⟩ 8 (by kernel_rfl) (by kernel_rfl) (by kernel_rfl) (by kernel_rfl)) ?_
  intro W base args ds gs before hval0 hW hcnd _
  have hval : ∀ (j : Nat) t v, Tryz.f6.params[j]? = some t → args[j]? = some v → Value.okWide Tryz.prog W .any base t v := hval0
  have hW' := hW
  obtain ⟨p, q, hA0, hV, rfl, hfz, hnd⟩ := hW
  have hA : DataW.TrodAll enc Tryz.prog W 0 (fun _ => true) true Tryz.f6.params.toList args.toList ds p := hA0
  have hAk := hA
  rw [Tryz.params6] at hA hval
  obtain ⟨v0, vs0, d0, ds0, p0, q0, hargs, rfl, hp0, h0, r0⟩ := trodAll_cons hA
  obtain ⟨v1, vs1, d1, ds1, p1, q1, rfl, rfl, hp1, h1, r1⟩ := trodAll_cons r0
  obtain ⟨v2, vs2, d2, ds2, p2, q2, rfl, rfl, hp2, h2, r2⟩ := trodAll_cons r1
  obtain ⟨rfl, rfl, hpl⟩ := trodAll_nil r2
  obtain rfl : args = #[v0, v1, v2] := by cases args; simp_all
  obtain ⟨rfl, rfl⟩ := trodVars_none hV
  obtain ⟨o0, ao0, n0, cap0, k0, xs0, rfl, l0, s0, w0, x0, y0⟩ := open_code Tryz.underlying24 rfl rfl rfl (show Tryz.prog.cellsOf 3 = 1 by kernel_rfl) (show Tryz.prog.cellsOf 22 = 1 by kernel_rfl) (show Tryz.prog.cellsOf 3 = 1 by kernel_rfl) Tryz.underlying3 Tryz.underlying22 Tryz.underlying3 Tryz.underlying3 (show Tryz.prog.cellsOf 24 = 3 by kernel_rfl) (show Tryz.prog.cellsOf 3 = 1 by kernel_rfl) (hval 0 24 v0 rfl rfl) h0
  obtain ⟨v1a, v1b, xs1, ys1, rfl, s1, w1, t1, x1⟩ := open_duo Tryz.underlying64 Tryz.underlying22 Tryz.underlying3 (show Tryz.prog.cellsOf 64 = 2 by kernel_rfl) (show Tryz.prog.cellsOf 22 = 1 by kernel_rfl) (show Tryz.prog.cellsOf 3 = 1 by kernel_rfl) (hval 1 64 v1 rfl rfl) h1
  obtain ⟨v2a, v2b, xs2, ys2, rfl, s2, w2, t2, x2⟩ := open_duo Tryz.underlying64 Tryz.underlying22 Tryz.underlying3 (show Tryz.prog.cellsOf 64 = 2 by kernel_rfl) (show Tryz.prog.cellsOf 22 = 1 by kernel_rfl) (show Tryz.prog.cellsOf 3 = 1 by kernel_rfl) (hval 2 64 v2 rfl rfl) h2
  clear hA0 hval0 hA
  simp only [List.append_nil] at hW'
  have hlt : ∀ x ∈ p, x.block < W.heap.size := fun x hx => hW'.lt x hx
  refine (Go.Proofs.YtdnheaafcbihbaaGreat.codeDenies_any o0 ao0 n0 cap0 k0 xs0 v1a v1b xs1 ys1 v2a v2b xs2 ys2 W l0 s0 w0 (i64_bounds x0).1 (i64_bounds x0).2 (i64_bounds y0).1 (i64_bounds y0).2 s1 w1 t1 x1 s2 w2 t2 x2).mono fun e W' ⟨hg, he⟩ => ?_
  subst he
  exact ⟨_, rfl, Go.Proofs.YtdnheaafcbihbaaGreat.post_of_below (pa := p) (pv := []) hW' (fun _ _ _ => (trodAll_cons_mk (shut_bool Tryz.underlying4 _) trodAll_mk0)) (fun sp hsp => trodAll_stays laid hg (by rw [Tryz.params6]; decide +kernel) hAk hlt hsp) (fun _ _ => rfl) (by simp)
    hg (ok_one (by kernel_rfl) rfl (okWide_bool_mk Tryz.underlying4 _))⟩

theorem fact1 : Tryz.pinned.checked.prog.funcNamed Rows.codeDeniesRow.func = some 6 := by kernel_rfl
theorem fact2 : joinedFacts Tryz.pinned.checked.prog 6 Tryz.f6 Rows.codeDeniesSpec Rows.codeDeniesRow = true := by kernel_rfl
theorem fact3 : Tryz.f6.isInstance Tryz.pinned.checked.prog Rows.codeDeniesRow.origin Rows.codeDeniesRow.targs := of_decide_eq_true (by kernel_rfl)
theorem fact4 : Tryz.f6.isWrapper Tryz.pinned.checked.prog Rows.codeDeniesRow.wrapper Rows.codeDeniesRow.mainSum := by unfold Func.isWrapper; first | (rw [if_pos (by decide +kernel)]; kernel_rfl) | (rw [if_neg (by decide +kernel)]; exact ⟨rfl, rfl⟩)
theorem over : Rows.codeDeniesRow.holds Tryz.pinned (OpenSpec.ofChange Rows.codeDeniesSpec) :=
  OpenClaim.holds_of_wide 6 Tryz.f6 rfl rfl rfl rfl rfl rfl rfl ⟨rfl, rfl, rfl, rfl, rfl⟩ rfl rfl rfl rfl rfl fact1 Tryz.func6 fact2 fact3 fact4
    (fun os started H enc _ => lifted os started H enc)

theorem proved : Rows.CodeDeniesSaid :=
  over
#print axioms proved
end Go.Proofs.YtdnheaafcbihbaaGreat.codeDenies
