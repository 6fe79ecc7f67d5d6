/-
  No cell of these rows narrows 'for every input' (looked for: loops, veiled, ifaces, maps, wideKeys, modest, calm, conditions, laid).
  DERIVED. THE GIVEN ROWS OF THIS SEAT. 15 by the template 'for every input the law returns true; each argument reads behind the call as it read before'; 0 by the template 'total and deterministic' (their statements: YtdnheaafcbihbaaGreatTotals.lean).
  GIVEN WITH THE SEED: the statements are not yours to turn. If you find one false, say at which input.
  Laid BY PROGRAM, IN A SANDBOX (cutbox-rows.mjs): the forced cells as the released guide's own fill.sh prints them over the translation f1394070ffe7701f… (all of the seat's roots in one cut). By AI agents, Wed Nov 11 2026. No macro, syntax, notation, axiom, sorry.
-/
import Derived.Test.YtdnheaafcbihbaaGreatChecked
import GoSem.Claim
import GoSem.ClaimJoined
import GoSem.ClaimMapViews
import Derived.JoinedTies
import Derived.KernelRfl
namespace Go.Proofs.YtdnheaafcbihbaaGreat
/- THE CELL 'sum', in the pinned program and in every row, IS THE sha256 OF THE DUMP (.gsa) THAT YtdnheaafcbihbaaGreatProg.lean LOADS. Nothing in Lean hashes anything: it is a label: what it is worth is what the hold of that sum in a sandbox is worth. -/
noncomputable def Tryz.pinned : Pinned := { name := "ytdnheaafcbihbaagreat", sum := "f1394070ffe7701f62de80a7bdc7e51e1ee42ed87eeb013fbcc4b536cc8afc45", checked := Tryz.checked }
namespace Rows
def none {H : Type} : Left H := { results := [], args := [] }

/-- 'dauberlaw03.CodeChecks': WHATEVER THE INPUT: true; the input reads as it did. -/
def codeChecksSpec : ChangeSpec := { name := "codeChecks", fn := fun _ => fun
  | [d] => { results := [.lit (.bool true)], args := [d] }
  | _ => none }
def codeChecksRow : OpenClaim := { program := "ytdnheaafcbihbaagreat", sum := "f1394070ffe7701f62de80a7bdc7e51e1ee42ed87eeb013fbcc4b536cc8afc45", func := "dauber/dauberlaw03.CodeChecks", spec := "codeChecks", inPlace := ["math/bits.Add64", "math/bits.Sub64"], unfollowed := true, recurses := true, named := ["math/bits.divideError", "math/bits.overflowError"], apart := false }
def CodeChecksSaid : Prop := codeChecksRow.holds Tryz.pinned (OpenSpec.ofChange codeChecksSpec)

/-- ITS FALSE NEIGHBOUR: 'it returns false'. Refute it at one input. -/
def codeChecksWrong : ChangeSpec := { name := "codeChecks", fn := fun _ => fun
  | [d] => { results := [.lit (.bool false)], args := [d] }
  | _ => none }
def CodeChecksWrongFalsely : Prop := codeChecksRow.holds Tryz.pinned (OpenSpec.ofChange codeChecksWrong)

/-- 'dauberlaw03.CodeWords': WHATEVER THE INPUT: true; the input reads as it did. -/
def codeWordsSpec : ChangeSpec := { name := "codeWords", fn := fun _ => fun
  | [d1, d2, d3] => { results := [.lit (.bool true)], args := [d1, d2, d3] }
  | _ => none }
def codeWordsRow : OpenClaim := { program := "ytdnheaafcbihbaagreat", sum := "f1394070ffe7701f62de80a7bdc7e51e1ee42ed87eeb013fbcc4b536cc8afc45", func := "dauber/dauberlaw03.CodeWords", spec := "codeWords", inPlace := ["math/bits.Add64", "math/bits.Sub64"], unfollowed := true, recurses := true, named := ["math/bits.divideError", "math/bits.overflowError"], apart := false }
def CodeWordsSaid : Prop := codeWordsRow.holds Tryz.pinned (OpenSpec.ofChange codeWordsSpec)

/-- ITS FALSE NEIGHBOUR: 'it returns false'. Refute it at one input. -/
def codeWordsWrong : ChangeSpec := { name := "codeWords", fn := fun _ => fun
  | [d1, d2, d3] => { results := [.lit (.bool false)], args := [d1, d2, d3] }
  | _ => none }
def CodeWordsWrongFalsely : Prop := codeWordsRow.holds Tryz.pinned (OpenSpec.ofChange codeWordsWrong)

/-- 'dauberlaw03.CodeDecodes': WHATEVER THE INPUT: true; the input reads as it did. -/
def codeDecodesSpec : ChangeSpec := { name := "codeDecodes", fn := fun _ => fun
  | [d1, d2, d3] => { results := [.lit (.bool true)], args := [d1, d2, d3] }
  | _ => none }
def codeDecodesRow : OpenClaim := { program := "ytdnheaafcbihbaagreat", sum := "f1394070ffe7701f62de80a7bdc7e51e1ee42ed87eeb013fbcc4b536cc8afc45", func := "dauber/dauberlaw03.CodeDecodes", spec := "codeDecodes", inPlace := ["math/bits.Add64", "math/bits.Sub64"], unfollowed := true, recurses := true, named := ["math/bits.divideError", "math/bits.overflowError"], apart := false }
def CodeDecodesSaid : Prop := codeDecodesRow.holds Tryz.pinned (OpenSpec.ofChange codeDecodesSpec)

/-- ITS FALSE NEIGHBOUR: 'it returns false'. Refute it at one input. -/
def codeDecodesWrong : ChangeSpec := { name := "codeDecodes", fn := fun _ => fun
  | [d1, d2, d3] => { results := [.lit (.bool false)], args := [d1, d2, d3] }
  | _ => none }
def CodeDecodesWrongFalsely : Prop := codeDecodesRow.holds Tryz.pinned (OpenSpec.ofChange codeDecodesWrong)

/-- 'dauberlaw03.CodeDenies': WHATEVER THE INPUT: true; the input reads as it did. -/
def codeDeniesSpec : ChangeSpec := { name := "codeDenies", fn := fun _ => fun
  | [d1, d2, d3] => { results := [.lit (.bool true)], args := [d1, d2, d3] }
  | _ => none }
def codeDeniesRow : OpenClaim := { program := "ytdnheaafcbihbaagreat", sum := "f1394070ffe7701f62de80a7bdc7e51e1ee42ed87eeb013fbcc4b536cc8afc45", func := "dauber/dauberlaw03.CodeDenies", spec := "codeDenies", inPlace := ["math/bits.Add64", "math/bits.Sub64"], unfollowed := true, recurses := true, named := ["math/bits.divideError", "math/bits.overflowError"], apart := false }
def CodeDeniesSaid : Prop := codeDeniesRow.holds Tryz.pinned (OpenSpec.ofChange codeDeniesSpec)

/-- ITS FALSE NEIGHBOUR: 'it returns false'. Refute it at one input. -/
def codeDeniesWrong : ChangeSpec := { name := "codeDenies", fn := fun _ => fun
  | [d1, d2, d3] => { results := [.lit (.bool false)], args := [d1, d2, d3] }
  | _ => none }
def CodeDeniesWrongFalsely : Prop := codeDeniesRow.holds Tryz.pinned (OpenSpec.ofChange codeDeniesWrong)

/-- 'dauberlaw03.CodeLists': WHATEVER THE INPUT: true; the input reads as it did. -/
def codeListsSpec : ChangeSpec := { name := "codeLists", fn := fun _ => fun
  | [d1, d2, d3] => { results := [.lit (.bool true)], args := [d1, d2, d3] }
  | _ => none }
def codeListsRow : OpenClaim := { program := "ytdnheaafcbihbaagreat", sum := "f1394070ffe7701f62de80a7bdc7e51e1ee42ed87eeb013fbcc4b536cc8afc45", func := "dauber/dauberlaw03.CodeLists", spec := "codeLists", inPlace := ["math/bits.Add64", "math/bits.Sub64"], unfollowed := true, recurses := true, named := ["math/bits.divideError", "math/bits.overflowError"], apart := false }
def CodeListsSaid : Prop := codeListsRow.holds Tryz.pinned (OpenSpec.ofChange codeListsSpec)

/-- ITS FALSE NEIGHBOUR: 'it returns false'. Refute it at one input. -/
def codeListsWrong : ChangeSpec := { name := "codeLists", fn := fun _ => fun
  | [d1, d2, d3] => { results := [.lit (.bool false)], args := [d1, d2, d3] }
  | _ => none }
def CodeListsWrongFalsely : Prop := codeListsRow.holds Tryz.pinned (OpenSpec.ofChange codeListsWrong)

/-- 'dauberlaw03.CodeWeights': WHATEVER THE INPUT: true; the input reads as it did. -/
def codeWeightsSpec : ChangeSpec := { name := "codeWeights", fn := fun _ => fun
  | [d1, d2] => { results := [.lit (.bool true)], args := [d1, d2] }
  | _ => none }
def codeWeightsRow : OpenClaim := { program := "ytdnheaafcbihbaagreat", sum := "f1394070ffe7701f62de80a7bdc7e51e1ee42ed87eeb013fbcc4b536cc8afc45", func := "dauber/dauberlaw03.CodeWeights", spec := "codeWeights", inPlace := ["math/bits.Add64", "math/bits.Sub64"], unfollowed := true, recurses := true, named := ["math/bits.divideError", "math/bits.overflowError"], apart := false }
def CodeWeightsSaid : Prop := codeWeightsRow.holds Tryz.pinned (OpenSpec.ofChange codeWeightsSpec)

/-- ITS FALSE NEIGHBOUR: 'it returns false'. Refute it at one input. -/
def codeWeightsWrong : ChangeSpec := { name := "codeWeights", fn := fun _ => fun
  | [d1, d2] => { results := [.lit (.bool false)], args := [d1, d2] }
  | _ => none }
def CodeWeightsWrongFalsely : Prop := codeWeightsRow.holds Tryz.pinned (OpenSpec.ofChange codeWeightsWrong)

/-- 'dauberlaw03.CodeMakes': WHATEVER THE INPUT: true; the input reads as it did. -/
def codeMakesSpec : ChangeSpec := { name := "codeMakes", fn := fun _ => fun
  | [d1, d2, d3] => { results := [.lit (.bool true)], args := [d1, d2, d3] }
  | _ => none }
def codeMakesRow : OpenClaim := { program := "ytdnheaafcbihbaagreat", sum := "f1394070ffe7701f62de80a7bdc7e51e1ee42ed87eeb013fbcc4b536cc8afc45", func := "dauber/dauberlaw03.CodeMakes", spec := "codeMakes", inPlace := ["math/bits.Add64", "math/bits.Sub64"], unfollowed := true, recurses := true, named := ["math/bits.divideError", "math/bits.overflowError"], apart := false }
def CodeMakesSaid : Prop := codeMakesRow.holds Tryz.pinned (OpenSpec.ofChange codeMakesSpec)

/-- ITS FALSE NEIGHBOUR: 'it returns false'. Refute it at one input. -/
def codeMakesWrong : ChangeSpec := { name := "codeMakes", fn := fun _ => fun
  | [d1, d2, d3] => { results := [.lit (.bool false)], args := [d1, d2, d3] }
  | _ => none }
def CodeMakesWrongFalsely : Prop := codeMakesRow.holds Tryz.pinned (OpenSpec.ofChange codeMakesWrong)

/-- 'dauberlaw03.CodeRegisters': WHATEVER THE INPUT: true; the input reads as it did. -/
def codeRegistersSpec : ChangeSpec := { name := "codeRegisters", fn := fun _ => fun
  | [d1, d2] => { results := [.lit (.bool true)], args := [d1, d2] }
  | _ => none }
def codeRegistersRow : OpenClaim := { program := "ytdnheaafcbihbaagreat", sum := "f1394070ffe7701f62de80a7bdc7e51e1ee42ed87eeb013fbcc4b536cc8afc45", func := "dauber/dauberlaw03.CodeRegisters", spec := "codeRegisters", inPlace := ["math/bits.Add64", "math/bits.Sub64"], unfollowed := true, recurses := true, named := ["math/bits.divideError", "math/bits.overflowError"], apart := false }
def CodeRegistersSaid : Prop := codeRegistersRow.holds Tryz.pinned (OpenSpec.ofChange codeRegistersSpec)

/-- ITS FALSE NEIGHBOUR: 'it returns false'. Refute it at one input. -/
def codeRegistersWrong : ChangeSpec := { name := "codeRegisters", fn := fun _ => fun
  | [d1, d2] => { results := [.lit (.bool false)], args := [d1, d2] }
  | _ => none }
def CodeRegistersWrongFalsely : Prop := codeRegistersRow.holds Tryz.pinned (OpenSpec.ofChange codeRegistersWrong)

/-- 'dauberlaw03.CodeEither': WHATEVER THE INPUT: true; the input reads as it did. -/
def codeEitherSpec : ChangeSpec := { name := "codeEither", fn := fun _ => fun
  | [d1, d2, d3] => { results := [.lit (.bool true)], args := [d1, d2, d3] }
  | _ => none }
def codeEitherRow : OpenClaim := { program := "ytdnheaafcbihbaagreat", sum := "f1394070ffe7701f62de80a7bdc7e51e1ee42ed87eeb013fbcc4b536cc8afc45", func := "dauber/dauberlaw03.CodeEither", spec := "codeEither", inPlace := ["math/bits.Add64", "math/bits.Sub64"], unfollowed := true, recurses := true, named := ["math/bits.divideError", "math/bits.overflowError"], apart := false }
def CodeEitherSaid : Prop := codeEitherRow.holds Tryz.pinned (OpenSpec.ofChange codeEitherSpec)

/-- ITS FALSE NEIGHBOUR: 'it returns false'. Refute it at one input. -/
def codeEitherWrong : ChangeSpec := { name := "codeEither", fn := fun _ => fun
  | [d1, d2, d3] => { results := [.lit (.bool false)], args := [d1, d2, d3] }
  | _ => none }
def CodeEitherWrongFalsely : Prop := codeEitherRow.holds Tryz.pinned (OpenSpec.ofChange codeEitherWrong)

/-- 'dauberlaw03.CodePlaces': WHATEVER THE INPUT: true; the input reads as it did. -/
def codePlacesSpec : ChangeSpec := { name := "codePlaces", fn := fun _ => fun
  | [d1, d2, d3] => { results := [.lit (.bool true)], args := [d1, d2, d3] }
  | _ => none }
def codePlacesRow : OpenClaim := { program := "ytdnheaafcbihbaagreat", sum := "f1394070ffe7701f62de80a7bdc7e51e1ee42ed87eeb013fbcc4b536cc8afc45", func := "dauber/dauberlaw03.CodePlaces", spec := "codePlaces", inPlace := ["math/bits.Add64", "math/bits.Sub64"], unfollowed := true, recurses := true, named := ["math/bits.divideError", "math/bits.overflowError"], apart := false }
def CodePlacesSaid : Prop := codePlacesRow.holds Tryz.pinned (OpenSpec.ofChange codePlacesSpec)

/-- ITS FALSE NEIGHBOUR: 'it returns false'. Refute it at one input. -/
def codePlacesWrong : ChangeSpec := { name := "codePlaces", fn := fun _ => fun
  | [d1, d2, d3] => { results := [.lit (.bool false)], args := [d1, d2, d3] }
  | _ => none }
def CodePlacesWrongFalsely : Prop := codePlacesRow.holds Tryz.pinned (OpenSpec.ofChange codePlacesWrong)

/-- 'dauberlaw03.CodeMacWilliams': WHATEVER THE INPUT: true; the input reads as it did. -/
def codeMacWilliamsSpec : ChangeSpec := { name := "codeMacWilliams", fn := fun _ => fun
  | [d1, d2] => { results := [.lit (.bool true)], args := [d1, d2] }
  | _ => none }
def codeMacWilliamsRow : OpenClaim := { program := "ytdnheaafcbihbaagreat", sum := "f1394070ffe7701f62de80a7bdc7e51e1ee42ed87eeb013fbcc4b536cc8afc45", func := "dauber/dauberlaw03.CodeMacWilliams", spec := "codeMacWilliams", inPlace := ["math/bits.Add64", "math/bits.Sub64"], unfollowed := true, recurses := true, named := ["math/bits.divideError", "math/bits.overflowError"], apart := false }
def CodeMacWilliamsSaid : Prop := codeMacWilliamsRow.holds Tryz.pinned (OpenSpec.ofChange codeMacWilliamsSpec)

/-- ITS FALSE NEIGHBOUR: 'it returns false'. Refute it at one input. -/
def codeMacWilliamsWrong : ChangeSpec := { name := "codeMacWilliams", fn := fun _ => fun
  | [d1, d2] => { results := [.lit (.bool false)], args := [d1, d2] }
  | _ => none }
def CodeMacWilliamsWrongFalsely : Prop := codeMacWilliamsRow.holds Tryz.pinned (OpenSpec.ofChange codeMacWilliamsWrong)

/-- 'dauberlaw03.CodeSingleton': WHATEVER THE INPUT: true; the input reads as it did. -/
def codeSingletonSpec : ChangeSpec := { name := "codeSingleton", fn := fun _ => fun
  | [d] => { results := [.lit (.bool true)], args := [d] }
  | _ => none }
def codeSingletonRow : OpenClaim := { program := "ytdnheaafcbihbaagreat", sum := "f1394070ffe7701f62de80a7bdc7e51e1ee42ed87eeb013fbcc4b536cc8afc45", func := "dauber/dauberlaw03.CodeSingleton", spec := "codeSingleton", inPlace := ["math/bits.Add64", "math/bits.Sub64"], unfollowed := true, recurses := true, named := ["math/bits.divideError", "math/bits.overflowError"], apart := false }
def CodeSingletonSaid : Prop := codeSingletonRow.holds Tryz.pinned (OpenSpec.ofChange codeSingletonSpec)

/-- ITS FALSE NEIGHBOUR: 'it returns false'. Refute it at one input. -/
def codeSingletonWrong : ChangeSpec := { name := "codeSingleton", fn := fun _ => fun
  | [d] => { results := [.lit (.bool false)], args := [d] }
  | _ => none }
def CodeSingletonWrongFalsely : Prop := codeSingletonRow.holds Tryz.pinned (OpenSpec.ofChange codeSingletonWrong)

/-- 'dauberlaw03.CodeMassey': WHATEVER THE INPUT: true; the input reads as it did. -/
def codeMasseySpec : ChangeSpec := { name := "codeMassey", fn := fun _ => fun
  | [d1, d2] => { results := [.lit (.bool true)], args := [d1, d2] }
  | _ => none }
def codeMasseyRow : OpenClaim := { program := "ytdnheaafcbihbaagreat", sum := "f1394070ffe7701f62de80a7bdc7e51e1ee42ed87eeb013fbcc4b536cc8afc45", func := "dauber/dauberlaw03.CodeMassey", spec := "codeMassey", inPlace := ["math/bits.Add64", "math/bits.Sub64"], unfollowed := true, recurses := true, named := ["math/bits.divideError", "math/bits.overflowError"], apart := false }
def CodeMasseySaid : Prop := codeMasseyRow.holds Tryz.pinned (OpenSpec.ofChange codeMasseySpec)

/-- ITS FALSE NEIGHBOUR: 'it returns false'. Refute it at one input. -/
def codeMasseyWrong : ChangeSpec := { name := "codeMassey", fn := fun _ => fun
  | [d1, d2] => { results := [.lit (.bool false)], args := [d1, d2] }
  | _ => none }
def CodeMasseyWrongFalsely : Prop := codeMasseyRow.holds Tryz.pinned (OpenSpec.ofChange codeMasseyWrong)

/-- 'daubertop.TopInterpolates': WHATEVER THE INPUT: true; the input reads as it did. -/
def topInterpolatesSpec : ChangeSpec := { name := "topInterpolates", fn := fun _ => fun
  | [d1, d2, d3] => { results := [.lit (.bool true)], args := [d1, d2, d3] }
  | _ => none }
def topInterpolatesRow : OpenClaim := { program := "ytdnheaafcbihbaagreat", sum := "f1394070ffe7701f62de80a7bdc7e51e1ee42ed87eeb013fbcc4b536cc8afc45", func := "dauber/daubertop.TopInterpolates", spec := "topInterpolates", inPlace := ["math/bits.Add64", "math/bits.Sub64"], unfollowed := true, recurses := true, named := ["math/bits.divideError", "math/bits.overflowError"], apart := false }
def TopInterpolatesSaid : Prop := topInterpolatesRow.holds Tryz.pinned (OpenSpec.ofChange topInterpolatesSpec)

/-- ITS FALSE NEIGHBOUR: 'it returns false'. Refute it at one input. -/
def topInterpolatesWrong : ChangeSpec := { name := "topInterpolates", fn := fun _ => fun
  | [d1, d2, d3] => { results := [.lit (.bool false)], args := [d1, d2, d3] }
  | _ => none }
def TopInterpolatesWrongFalsely : Prop := topInterpolatesRow.holds Tryz.pinned (OpenSpec.ofChange topInterpolatesWrong)

/-- 'daubertop.TopTraces': WHATEVER THE INPUT: true; the input reads as it did. -/
def topTracesSpec : ChangeSpec := { name := "topTraces", fn := fun _ => fun
  | [d1, d2, d3] => { results := [.lit (.bool true)], args := [d1, d2, d3] }
  | _ => none }
def topTracesRow : OpenClaim := { program := "ytdnheaafcbihbaagreat", sum := "f1394070ffe7701f62de80a7bdc7e51e1ee42ed87eeb013fbcc4b536cc8afc45", func := "dauber/daubertop.TopTraces", spec := "topTraces", inPlace := ["math/bits.Add64", "math/bits.Sub64"], unfollowed := true, recurses := true, named := ["math/bits.divideError", "math/bits.overflowError"], apart := false }
def TopTracesSaid : Prop := topTracesRow.holds Tryz.pinned (OpenSpec.ofChange topTracesSpec)

/-- ITS FALSE NEIGHBOUR: 'it returns false'. Refute it at one input. -/
def topTracesWrong : ChangeSpec := { name := "topTraces", fn := fun _ => fun
  | [d1, d2, d3] => { results := [.lit (.bool false)], args := [d1, d2, d3] }
  | _ => none }
def TopTracesWrongFalsely : Prop := topTracesRow.holds Tryz.pinned (OpenSpec.ofChange topTracesWrong)

/- THE SECOND FORM. 'bulk': how many values and letters a reading holds, each counted each time it is reached (what is shared counts as often as it is met; a slice's spare places count too). A statement '..UptoSaid' is the law's where the arguments, and the package variables that the reading takes, are together of bulk at most 1048576: NARROWER than '..Said'. Prove '..Said' where nothing that the law and all that it calls make is longer than what came in: it says more and counts as full. Else prove '..UptoSaid'. A law counts once. -/
mutual
def uptoBulk {H : Type} : DataW H → Nat
  | .lit (.string bytes) => bytes.length + 1
  | .lit _ => 1
  | .nil => 1
  | .ptr d => uptoBulk d + 1
  | .slice elems spare => uptoBulkAll elems + uptoBulkAll spare + 1
  | .agg parts => uptoBulkAll parts + 1
  | .iface _ d => uptoBulk d + 1
  | .map entries => uptoBulkEntries entries + 1
  | .held _ => 1
def uptoBulkAll {H : Type} : List (DataW H) → Nat
  | [] => 0
  | d :: r => uptoBulk d + uptoBulkAll r
def uptoBulkEntries {H : Type} : List (Lit × DataW H) → Nat
  | [] => 0
  | x :: r => uptoBulkEntry x + uptoBulkEntries r
def uptoBulkEntry {H : Type} : Lit × DataW H → Nat
  | (.string bytes, d) => bytes.length + uptoBulk d + 1
  | (_, d) => uptoBulk d + 1
 end
def uptoSmall : (H : Type) → List (DataW H) → Bool := fun _ ds => decide (uptoBulkAll ds ≤ 1048576)
def OpenSpec.upto (s : _root_.Go.ChangeSpec) : _root_.Go.OpenSpec := { _root_.Go.OpenSpec.ofChange s with cond := some uptoSmall }

/-- 'dauberlaw03.CodeChecks', WHERE WHAT IT READS IS OF BULK AT MOST 1048576: true; the input reads as it did. -/
def codeChecksUptoRow : OpenClaim := { program := "ytdnheaafcbihbaagreat", sum := "f1394070ffe7701f62de80a7bdc7e51e1ee42ed87eeb013fbcc4b536cc8afc45", func := "dauber/dauberlaw03.CodeChecks", spec := "codeChecks", inPlace := ["math/bits.Add64", "math/bits.Sub64"], unfollowed := true, recurses := true, named := ["math/bits.divideError", "math/bits.overflowError"], apart := false, narrowed := true }
def CodeChecksUptoSaid : Prop := codeChecksUptoRow.holds Tryz.pinned (OpenSpec.upto codeChecksSpec)

/-- 'dauberlaw03.CodeWords', WHERE WHAT IT READS IS OF BULK AT MOST 1048576: true; the input reads as it did. -/
def codeWordsUptoRow : OpenClaim := { program := "ytdnheaafcbihbaagreat", sum := "f1394070ffe7701f62de80a7bdc7e51e1ee42ed87eeb013fbcc4b536cc8afc45", func := "dauber/dauberlaw03.CodeWords", spec := "codeWords", inPlace := ["math/bits.Add64", "math/bits.Sub64"], unfollowed := true, recurses := true, named := ["math/bits.divideError", "math/bits.overflowError"], apart := false, narrowed := true }
def CodeWordsUptoSaid : Prop := codeWordsUptoRow.holds Tryz.pinned (OpenSpec.upto codeWordsSpec)

/-- 'dauberlaw03.CodeDecodes', WHERE WHAT IT READS IS OF BULK AT MOST 1048576: true; the input reads as it did. -/
def codeDecodesUptoRow : OpenClaim := { program := "ytdnheaafcbihbaagreat", sum := "f1394070ffe7701f62de80a7bdc7e51e1ee42ed87eeb013fbcc4b536cc8afc45", func := "dauber/dauberlaw03.CodeDecodes", spec := "codeDecodes", inPlace := ["math/bits.Add64", "math/bits.Sub64"], unfollowed := true, recurses := true, named := ["math/bits.divideError", "math/bits.overflowError"], apart := false, narrowed := true }
def CodeDecodesUptoSaid : Prop := codeDecodesUptoRow.holds Tryz.pinned (OpenSpec.upto codeDecodesSpec)

/-- 'dauberlaw03.CodeDenies', WHERE WHAT IT READS IS OF BULK AT MOST 1048576: true; the input reads as it did. -/
def codeDeniesUptoRow : OpenClaim := { program := "ytdnheaafcbihbaagreat", sum := "f1394070ffe7701f62de80a7bdc7e51e1ee42ed87eeb013fbcc4b536cc8afc45", func := "dauber/dauberlaw03.CodeDenies", spec := "codeDenies", inPlace := ["math/bits.Add64", "math/bits.Sub64"], unfollowed := true, recurses := true, named := ["math/bits.divideError", "math/bits.overflowError"], apart := false, narrowed := true }
def CodeDeniesUptoSaid : Prop := codeDeniesUptoRow.holds Tryz.pinned (OpenSpec.upto codeDeniesSpec)

/-- 'dauberlaw03.CodeLists', WHERE WHAT IT READS IS OF BULK AT MOST 1048576: true; the input reads as it did. -/
def codeListsUptoRow : OpenClaim := { program := "ytdnheaafcbihbaagreat", sum := "f1394070ffe7701f62de80a7bdc7e51e1ee42ed87eeb013fbcc4b536cc8afc45", func := "dauber/dauberlaw03.CodeLists", spec := "codeLists", inPlace := ["math/bits.Add64", "math/bits.Sub64"], unfollowed := true, recurses := true, named := ["math/bits.divideError", "math/bits.overflowError"], apart := false, narrowed := true }
def CodeListsUptoSaid : Prop := codeListsUptoRow.holds Tryz.pinned (OpenSpec.upto codeListsSpec)

/-- 'dauberlaw03.CodeWeights', WHERE WHAT IT READS IS OF BULK AT MOST 1048576: true; the input reads as it did. -/
def codeWeightsUptoRow : OpenClaim := { program := "ytdnheaafcbihbaagreat", sum := "f1394070ffe7701f62de80a7bdc7e51e1ee42ed87eeb013fbcc4b536cc8afc45", func := "dauber/dauberlaw03.CodeWeights", spec := "codeWeights", inPlace := ["math/bits.Add64", "math/bits.Sub64"], unfollowed := true, recurses := true, named := ["math/bits.divideError", "math/bits.overflowError"], apart := false, narrowed := true }
def CodeWeightsUptoSaid : Prop := codeWeightsUptoRow.holds Tryz.pinned (OpenSpec.upto codeWeightsSpec)

/-- 'dauberlaw03.CodeMakes', WHERE WHAT IT READS IS OF BULK AT MOST 1048576: true; the input reads as it did. -/
def codeMakesUptoRow : OpenClaim := { program := "ytdnheaafcbihbaagreat", sum := "f1394070ffe7701f62de80a7bdc7e51e1ee42ed87eeb013fbcc4b536cc8afc45", func := "dauber/dauberlaw03.CodeMakes", spec := "codeMakes", inPlace := ["math/bits.Add64", "math/bits.Sub64"], unfollowed := true, recurses := true, named := ["math/bits.divideError", "math/bits.overflowError"], apart := false, narrowed := true }
def CodeMakesUptoSaid : Prop := codeMakesUptoRow.holds Tryz.pinned (OpenSpec.upto codeMakesSpec)

/-- 'dauberlaw03.CodeRegisters', WHERE WHAT IT READS IS OF BULK AT MOST 1048576: true; the input reads as it did. -/
def codeRegistersUptoRow : OpenClaim := { program := "ytdnheaafcbihbaagreat", sum := "f1394070ffe7701f62de80a7bdc7e51e1ee42ed87eeb013fbcc4b536cc8afc45", func := "dauber/dauberlaw03.CodeRegisters", spec := "codeRegisters", inPlace := ["math/bits.Add64", "math/bits.Sub64"], unfollowed := true, recurses := true, named := ["math/bits.divideError", "math/bits.overflowError"], apart := false, narrowed := true }
def CodeRegistersUptoSaid : Prop := codeRegistersUptoRow.holds Tryz.pinned (OpenSpec.upto codeRegistersSpec)

/-- 'dauberlaw03.CodeEither', WHERE WHAT IT READS IS OF BULK AT MOST 1048576: true; the input reads as it did. -/
def codeEitherUptoRow : OpenClaim := { program := "ytdnheaafcbihbaagreat", sum := "f1394070ffe7701f62de80a7bdc7e51e1ee42ed87eeb013fbcc4b536cc8afc45", func := "dauber/dauberlaw03.CodeEither", spec := "codeEither", inPlace := ["math/bits.Add64", "math/bits.Sub64"], unfollowed := true, recurses := true, named := ["math/bits.divideError", "math/bits.overflowError"], apart := false, narrowed := true }
def CodeEitherUptoSaid : Prop := codeEitherUptoRow.holds Tryz.pinned (OpenSpec.upto codeEitherSpec)

/-- 'dauberlaw03.CodePlaces', WHERE WHAT IT READS IS OF BULK AT MOST 1048576: true; the input reads as it did. -/
def codePlacesUptoRow : OpenClaim := { program := "ytdnheaafcbihbaagreat", sum := "f1394070ffe7701f62de80a7bdc7e51e1ee42ed87eeb013fbcc4b536cc8afc45", func := "dauber/dauberlaw03.CodePlaces", spec := "codePlaces", inPlace := ["math/bits.Add64", "math/bits.Sub64"], unfollowed := true, recurses := true, named := ["math/bits.divideError", "math/bits.overflowError"], apart := false, narrowed := true }
def CodePlacesUptoSaid : Prop := codePlacesUptoRow.holds Tryz.pinned (OpenSpec.upto codePlacesSpec)

/-- 'dauberlaw03.CodeMacWilliams', WHERE WHAT IT READS IS OF BULK AT MOST 1048576: true; the input reads as it did. -/
def codeMacWilliamsUptoRow : OpenClaim := { program := "ytdnheaafcbihbaagreat", sum := "f1394070ffe7701f62de80a7bdc7e51e1ee42ed87eeb013fbcc4b536cc8afc45", func := "dauber/dauberlaw03.CodeMacWilliams", spec := "codeMacWilliams", inPlace := ["math/bits.Add64", "math/bits.Sub64"], unfollowed := true, recurses := true, named := ["math/bits.divideError", "math/bits.overflowError"], apart := false, narrowed := true }
def CodeMacWilliamsUptoSaid : Prop := codeMacWilliamsUptoRow.holds Tryz.pinned (OpenSpec.upto codeMacWilliamsSpec)

/-- 'dauberlaw03.CodeSingleton', WHERE WHAT IT READS IS OF BULK AT MOST 1048576: true; the input reads as it did. -/
def codeSingletonUptoRow : OpenClaim := { program := "ytdnheaafcbihbaagreat", sum := "f1394070ffe7701f62de80a7bdc7e51e1ee42ed87eeb013fbcc4b536cc8afc45", func := "dauber/dauberlaw03.CodeSingleton", spec := "codeSingleton", inPlace := ["math/bits.Add64", "math/bits.Sub64"], unfollowed := true, recurses := true, named := ["math/bits.divideError", "math/bits.overflowError"], apart := false, narrowed := true }
def CodeSingletonUptoSaid : Prop := codeSingletonUptoRow.holds Tryz.pinned (OpenSpec.upto codeSingletonSpec)

/-- 'dauberlaw03.CodeMassey', WHERE WHAT IT READS IS OF BULK AT MOST 1048576: true; the input reads as it did. -/
def codeMasseyUptoRow : OpenClaim := { program := "ytdnheaafcbihbaagreat", sum := "f1394070ffe7701f62de80a7bdc7e51e1ee42ed87eeb013fbcc4b536cc8afc45", func := "dauber/dauberlaw03.CodeMassey", spec := "codeMassey", inPlace := ["math/bits.Add64", "math/bits.Sub64"], unfollowed := true, recurses := true, named := ["math/bits.divideError", "math/bits.overflowError"], apart := false, narrowed := true }
def CodeMasseyUptoSaid : Prop := codeMasseyUptoRow.holds Tryz.pinned (OpenSpec.upto codeMasseySpec)

/-- 'daubertop.TopInterpolates', WHERE WHAT IT READS IS OF BULK AT MOST 1048576: true; the input reads as it did. -/
def topInterpolatesUptoRow : OpenClaim := { program := "ytdnheaafcbihbaagreat", sum := "f1394070ffe7701f62de80a7bdc7e51e1ee42ed87eeb013fbcc4b536cc8afc45", func := "dauber/daubertop.TopInterpolates", spec := "topInterpolates", inPlace := ["math/bits.Add64", "math/bits.Sub64"], unfollowed := true, recurses := true, named := ["math/bits.divideError", "math/bits.overflowError"], apart := false, narrowed := true }
def TopInterpolatesUptoSaid : Prop := topInterpolatesUptoRow.holds Tryz.pinned (OpenSpec.upto topInterpolatesSpec)

/-- 'daubertop.TopTraces', WHERE WHAT IT READS IS OF BULK AT MOST 1048576: true; the input reads as it did. -/
def topTracesUptoRow : OpenClaim := { program := "ytdnheaafcbihbaagreat", sum := "f1394070ffe7701f62de80a7bdc7e51e1ee42ed87eeb013fbcc4b536cc8afc45", func := "dauber/daubertop.TopTraces", spec := "topTraces", inPlace := ["math/bits.Add64", "math/bits.Sub64"], unfollowed := true, recurses := true, named := ["math/bits.divideError", "math/bits.overflowError"], apart := false, narrowed := true }
def TopTracesUptoSaid : Prop := topTracesUptoRow.holds Tryz.pinned (OpenSpec.upto topTracesSpec)

end Rows
end Go.Proofs.YtdnheaafcbihbaaGreat
