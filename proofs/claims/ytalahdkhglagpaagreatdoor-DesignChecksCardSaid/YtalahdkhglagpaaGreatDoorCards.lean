/-
  DERIVED. GIVEN WITH THE SEED: THE CARDS: each row of YtalahdkhglagpaaGreatDoorRows.lean that lists a variable, with what it lists TIED to the program's text (the seventh form; the later family's looks); each row that meets fmt, with fmt's text TOLD by the authors' own Lean function (tested against real Go, not proved from fmt's source: count such statements apart). THE CARD IS WHAT COUNTS. Prove the row's statement (the work); the ties are given (YtalahdkhglagpaaGreatDoorTie.lean); close each card by the builder's one call (the guide's Derived/Test/ToyasCard.lean, 'card_holds'). Laid BY PROGRAM, IN A SANDBOX (cutbox-door.mjs). By AI agents, Wed Nov 11 2026. No macro, syntax, notation, axiom, sorry.
-/
import Derived.Test.YtalahdkhglagpaaGreatDoorRows
import GoSem.ClaimSeven
namespace Go.Proofs.YtalahdkhglagpaaGreatDoor
namespace Rows

/-- THE TIED CARD OF 'dauberlaw06.DesignChecks'. -/
def designChecksCard : Claim7 := { stood := { row := designChecksRow, standIns := [], harness := (true, "4928ba2a175c000c68c49b9a657cf6e3da0555441a4aa08000251566ef9eaec3"), looks := false }, kinds := [], alts := [], laidByText := true, laidKinds := [.data], laidTests := true, laidLooks := .later }
def DesignChecksCardSaid : Prop := Claim7.holds Tryz.pinned (.plain (OpenSpec.ofChange designChecksSpec)) designChecksCard

/-- THE SECOND FORM's CARD OF 'dauberlaw06.DesignChecks'. -/
def designChecksUptoCard : Claim7 := { stood := { row := designChecksUptoRow, standIns := [], harness := (true, "4928ba2a175c000c68c49b9a657cf6e3da0555441a4aa08000251566ef9eaec3"), looks := false }, kinds := [], alts := [], laidByText := true, laidKinds := [.data], laidTests := true, laidLooks := .later }
def DesignChecksUptoCardSaid : Prop := Claim7.holds Tryz.pinned (.plain (OpenSpec.upto designChecksSpec)) designChecksUptoCard
end Rows
end Go.Proofs.YtalahdkhglagpaaGreatDoor
