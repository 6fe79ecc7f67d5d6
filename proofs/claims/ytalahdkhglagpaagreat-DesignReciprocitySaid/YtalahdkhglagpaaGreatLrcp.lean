/-
  dauberlaw06.DesignReciprocity: whatever arguments come in, the law returns true, and its arguments read as before; no condition.
-/
import Derived.Test.YtalahdkhglagpaaGreatOpl
import Derived.Test.YtalahdkhglagpaaGreatArt
import Derived.Test.YtalahdkhglagpaaGreatLrc
import Derived.Test.YtalahdkhglagpaaGreatRows
import Derived.WalkKit
import Derived.ProofKit
import Derived.OpenShut
namespace Go.Proofs.YtalahdkhglagpaaGreat.designReciprocity
open Go Go.ChangeShapes Go.WideShapes Go.ChangeAt Go.RowKit
open Go.Proofs.YtalahdkhglagpaaGreat (trodAll_stays i64_bounds)
set_option linter.unusedVariables false

theorem own : ownKnob Tryz.prog.godebug = none := by kernel_rfl
theorem laid : laidOutB Tryz.prog = true := by kernel_rfl

set_option maxRecDepth 100000 in
theorem lifted (os : Os) (started : os.Started) (H : Type) (enc : TypeId × Value → H) :
    ReturnsInHanded {} Tryz.checked os 5 .any (Rows.designReciprocitySpec.pre6 enc Tryz.prog Tryz.f5 Rows.designReciprocityRow.domain false) (Rows.designReciprocitySpec.post enc Tryz.prog Tryz.f5 false true false false) := by
  refine returnsInHanded_of_change (C := Tryz.checked) own started (by kernel_rfl) Tryz.func5
    (ChangeSpec.witness6 (enc := enc) (C := Tryz.checked) false ⟨#[], #[.agg #[.int .i64 0, .int .i64 0, .int .i64 0], .int .i64 0], []⟩ 8 (by kernel_rfl) (by kernel_rfl) (by kernel_rfl) (by kernel_rfl)) ?_
  intro W base args ds gs before hval0 hW hcnd _
  have hval : ∀ (j : Nat) t v, Tryz.f5.params[j]? = some t → args[j]? = some v → Value.okWide Tryz.prog W .any base t v := hval0
  have hW' := hW
  obtain ⟨p, q, hA0, hV, rfl, hfz, hnd⟩ := hW
  have hA : DataW.TrodAll enc Tryz.prog W 0 (fun _ => true) true Tryz.f5.params.toList args.toList ds p := hA0
  have hAk := hA
  rw [Tryz.params5] at hA hval
  obtain ⟨v0, vs0, d0, ds0, p0, q0, hargs, rfl, hp0, h0, r0⟩ := trodAll_cons hA
  obtain ⟨v1, vs1, d1, ds1, p1, q1, rfl, rfl, hp1, h1, r1⟩ := trodAll_cons r0
  obtain ⟨rfl, rfl, hpl⟩ := trodAll_nil r1
  obtain rfl : args = #[v0, v1] := by cases args; simp_all
  obtain ⟨rfl, rfl⟩ := trodVars_none hV
  obtain ⟨a0, b0, c0, rfl, rfl, _, w0, x0, y0⟩ := open_triple Tryz.underlying46 Tryz.underlying2 (show Tryz.prog.cellsOf 46 = 3 by kernel_rfl) (show Tryz.prog.cellsOf 2 = 1 by kernel_rfl) (hval 0 46 v0 rfl rfl) h0
  obtain ⟨a1, rfl, rfl, _, w1⟩ := open_int Tryz.underlying3 (hval 1 3 v1 rfl rfl) h1
  clear hA0 hval0 hA
  simp only [List.append_nil] at hW'
  have hlt : ∀ x ∈ p, x.block < W.heap.size := fun x hx => hW'.lt x hx
  refine (Go.Proofs.YtalahdkhglagpaaGreat.designReciprocity_any a0 b0 c0 a1 W (i64_bounds w0).1 (i64_bounds w0).2 (i64_bounds x0).1 (i64_bounds x0).2 (i64_bounds y0).1 (i64_bounds y0).2 (i64_bounds w1).1 (i64_bounds w1).2).mono fun e W' ⟨hg, he⟩ => ?_
  subst he
  exact ⟨_, rfl, Go.Proofs.YtalahdkhglagpaaGreat.post_of_below (pa := p) (pv := []) hW' (fun _ _ _ => (trodAll_cons_mk (shut_bool Tryz.underlying4 _) trodAll_mk0)) (fun sp hsp => trodAll_stays laid hg (by rw [Tryz.params5]; decide +kernel) hAk hlt hsp) (fun _ _ => rfl) (by simp)
    hg (ok_one (by kernel_rfl) rfl (okWide_bool_mk Tryz.underlying4 _))⟩

theorem fact1 : Tryz.pinned.checked.prog.funcNamed Rows.designReciprocityRow.func = some 5 := by kernel_rfl
theorem fact2 : joinedFacts Tryz.pinned.checked.prog 5 Tryz.f5 Rows.designReciprocitySpec Rows.designReciprocityRow = true := by kernel_rfl
theorem fact3 : Tryz.f5.isInstance Tryz.pinned.checked.prog Rows.designReciprocityRow.origin Rows.designReciprocityRow.targs := of_decide_eq_true (by kernel_rfl)
theorem fact4 : Tryz.f5.isWrapper Tryz.pinned.checked.prog Rows.designReciprocityRow.wrapper Rows.designReciprocityRow.mainSum := by unfold Func.isWrapper; first | (rw [if_pos (by decide +kernel)]; kernel_rfl) | (rw [if_neg (by decide +kernel)]; exact ⟨rfl, rfl⟩)
theorem over : Rows.designReciprocityRow.holds Tryz.pinned (OpenSpec.ofChange Rows.designReciprocitySpec) :=
  OpenClaim.holds_of_wide 5 Tryz.f5 rfl rfl rfl rfl rfl rfl rfl ⟨rfl, rfl, rfl, rfl, rfl⟩ rfl rfl rfl rfl rfl fact1 Tryz.func5 fact2 fact3 fact4
    (fun os started H enc _ => lifted os started H enc)

theorem proved : Rows.DesignReciprocitySaid :=
  over
#print axioms proved
end Go.Proofs.YtalahdkhglagpaaGreat.designReciprocity
