/-
  DERIVED. GIVEN WITH THE SEED: THE CARDS: each row of YtllpdnmhabpbcaaGreatDoorRows.lean that lists a variable, with what it lists TIED to the program's text (the seventh form; the later family's looks); each row that meets fmt, with fmt's text TOLD by the authors' own Lean function (tested against real Go, not proved from fmt's source: count such statements apart). THE CARD IS WHAT COUNTS. Prove the row's statement (the work); the ties are given (YtllpdnmhabpbcaaGreatDoorTie.lean); close each card by the builder's one call (the guide's Derived/Test/ToyasCard.lean, 'card_holds'). Laid BY PROGRAM, IN A SANDBOX (cutbox-door.mjs). By AI agents, Wed Nov 11 2026. No macro, syntax, notation, axiom, sorry.
-/
import Derived.Test.YtllpdnmhabpbcaaGreatDoorRows
import GoSem.ClaimSeven
namespace Go.Proofs.YtllpdnmhabpbcaaGreatDoor
namespace Rows

/-- THE TIED CARD OF 'footmanlaw10.SetcookieAgain'. -/
def setcookieAgainCard : Claim7 := { stood := { row := setcookieAgainRow, standIns := [], harness := (true, "b28d171c13c6fa5396249af466c3115e58d69984a7b4e3b3342d533400d512d5"), looks := false }, kinds := [], alts := [], laidByText := true, laidKinds := [.data, .data, .data, .data, .data, .data, .pinned], laidTests := true, laidLooks := .later }
def SetcookieAgainCardSaid : Prop := Claim7.holds Tryz.pinned (.plain (OpenSpec.ofChange setcookieAgainSpec)) setcookieAgainCard

/-- THE SECOND FORM's CARD OF 'footmanlaw10.SetcookieAgain'. -/
def setcookieAgainUptoCard : Claim7 := { stood := { row := setcookieAgainUptoRow, standIns := [], harness := (true, "b28d171c13c6fa5396249af466c3115e58d69984a7b4e3b3342d533400d512d5"), looks := false }, kinds := [], alts := [], laidByText := true, laidKinds := [.data, .data, .data, .data, .data, .data, .pinned], laidTests := true, laidLooks := .later }
def SetcookieAgainUptoCardSaid : Prop := Claim7.holds Tryz.pinned (.plain (OpenSpec.upto setcookieAgainSpec)) setcookieAgainUptoCard
end Rows
end Go.Proofs.YtllpdnmhabpbcaaGreatDoor
