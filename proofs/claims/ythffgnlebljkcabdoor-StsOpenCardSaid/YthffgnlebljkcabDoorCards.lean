/-
  DERIVED. GIVEN WITH THE SEED: THE CARDS: each row of YthffgnlebljkcabDoorRows.lean that lists a variable, with what it lists TIED to the program's text (the seventh form; the later family's looks); each row that meets fmt, with fmt's text TOLD by the authors' own Lean function (tested against real Go, not proved from fmt's source: count such statements apart). THE CARD IS WHAT COUNTS. Prove the row's statement (the work); the ties are given (YthffgnlebljkcabDoorTie.lean); close each card by the builder's one call (the guide's Derived/Test/ToyasCard.lean, 'card_holds'). Laid BY PROGRAM, IN A SANDBOX (cutbox-door.mjs). By AI agents, Wed Nov 11 2026. No macro, syntax, notation, axiom, sorry.
-/
import Derived.Test.YthffgnlebljkcabDoorRows
import GoSem.ClaimSeven
namespace Go.Proofs.YthffgnlebljkcabDoor
namespace Rows

/-- THE TIED CARD OF 'footmanlaw11.StsOpen'. -/
def stsOpenCard : Claim7 := { stood := { row := stsOpenRow, standIns := [], harness := (true, "ef9af94c2136f02aa72e6adaac4362b6b6269a48a8778fa9355c5518e0b191a1"), looks := false }, kinds := [], alts := [], laidByText := true, laidKinds := [.data, .data, .data, .data, .pinned], laidTests := true, laidLooks := .later }
def StsOpenCardSaid : Prop := Claim7.holds Tryd.pinned (.plain (OpenSpec.ofChange stsOpenSpec)) stsOpenCard

/-- THE SECOND FORM's CARD OF 'footmanlaw11.StsOpen'. -/
def stsOpenUptoCard : Claim7 := { stood := { row := stsOpenUptoRow, standIns := [], harness := (true, "ef9af94c2136f02aa72e6adaac4362b6b6269a48a8778fa9355c5518e0b191a1"), looks := false }, kinds := [], alts := [], laidByText := true, laidKinds := [.data, .data, .data, .data, .pinned], laidTests := true, laidLooks := .later }
def StsOpenUptoCardSaid : Prop := Claim7.holds Tryd.pinned (.plain (OpenSpec.upto stsOpenSpec)) stsOpenUptoCard
end Rows
end Go.Proofs.YthffgnlebljkcabDoor
