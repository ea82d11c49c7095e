/-
  DERIVED. GIVEN WITH THE SEED: THE CARDS: each row of YtcphokaamkalfaaGreatDoorRows.lean that lists a variable, with what it lists TIED to the program's text (the seventh form; the later family's looks); each row that meets fmt, with fmt's text TOLD by the authors' own Lean function (tested against real Go, not proved from fmt's source: count such statements apart). THE CARD IS WHAT COUNTS. Prove the row's statement (the work); the ties are given (YtcphokaamkalfaaGreatDoorTie.lean); close each card by the builder's one call (the guide's Derived/Test/ToyasCard.lean, 'card_holds'). Laid BY PROGRAM, IN A SANDBOX (cutbox-door.mjs). By AI agents, Wed Nov 11 2026. No macro, syntax, notation, axiom, sorry.
-/
import Derived.Test.YtcphokaamkalfaaGreatDoorRows
import GoSem.ClaimSeven
namespace Go.Proofs.YtcphokaamkalfaaGreatDoor
namespace Rows

/-- THE TIED CARD OF 'footmanlaw06.UrlsBack'. -/
def urlsBackCard : Claim7 := { stood := { row := urlsBackRow, standIns := [], harness := (true, "a2abd1b48252f1a7750126afb4a308396f5017547d67bbd4a51e8366061ba6f7"), looks := true }, kinds := [], alts := [], laidByText := true, laidKinds := [.data, .data, .data, .data, .pinned], laidTests := true, laidLooks := .later }
def UrlsBackCardSaid : Prop := Claim7.holds Tryz.pinned (.plain (OpenSpec.ofChange urlsBackSpec)) urlsBackCard

/-- THE TIED CARD OF 'footmanlaw06.UrlsHere'. -/
def urlsHereCard : Claim7 := { stood := { row := urlsHereRow, standIns := [], harness := (true, "a2abd1b48252f1a7750126afb4a308396f5017547d67bbd4a51e8366061ba6f7"), looks := true }, kinds := [], alts := [], laidByText := true, laidKinds := [.data, .data, .data, .data, .pinned], laidTests := true, laidLooks := .later }
def UrlsHereCardSaid : Prop := Claim7.holds Tryz.pinned (.plain (OpenSpec.ofChange urlsHereSpec)) urlsHereCard

/-- THE SECOND FORM's CARD OF 'footmanlaw06.UrlsBack'. -/
def urlsBackUptoCard : Claim7 := { stood := { row := urlsBackUptoRow, standIns := [], harness := (true, "a2abd1b48252f1a7750126afb4a308396f5017547d67bbd4a51e8366061ba6f7"), looks := true }, kinds := [], alts := [], laidByText := true, laidKinds := [.data, .data, .data, .data, .pinned], laidTests := true, laidLooks := .later }
def UrlsBackUptoCardSaid : Prop := Claim7.holds Tryz.pinned (.plain (OpenSpec.upto urlsBackSpec)) urlsBackUptoCard

/-- THE SECOND FORM's CARD OF 'footmanlaw06.UrlsHere'. -/
def urlsHereUptoCard : Claim7 := { stood := { row := urlsHereUptoRow, standIns := [], harness := (true, "a2abd1b48252f1a7750126afb4a308396f5017547d67bbd4a51e8366061ba6f7"), looks := true }, kinds := [], alts := [], laidByText := true, laidKinds := [.data, .data, .data, .data, .pinned], laidTests := true, laidLooks := .later }
def UrlsHereUptoCardSaid : Prop := Claim7.holds Tryz.pinned (.plain (OpenSpec.upto urlsHereSpec)) urlsHereUptoCard
end Rows
end Go.Proofs.YtcphokaamkalfaaGreatDoor
