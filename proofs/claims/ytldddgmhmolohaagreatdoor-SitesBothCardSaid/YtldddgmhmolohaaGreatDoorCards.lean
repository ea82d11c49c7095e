/-
  DERIVED. GIVEN WITH THE SEED: THE CARDS: each row of YtldddgmhmolohaaGreatDoorRows.lean that lists a variable, with what it lists TIED to the program's text (the seventh form; the later family's looks); each row that meets fmt, with fmt's text TOLD by the authors' own Lean function (tested against real Go, not proved from fmt's source: count such statements apart). THE CARD IS WHAT COUNTS. Prove the row's statement (the work); the ties are given (YtldddgmhmolohaaGreatDoorTie.lean); close each card by the builder's one call (the guide's Derived/Test/ToyasCard.lean, 'card_holds'). Laid BY PROGRAM, IN A SANDBOX (cutbox-door.mjs). By AI agents, Wed Nov 11 2026. No macro, syntax, notation, axiom, sorry.
-/
import Derived.Test.YtldddgmhmolohaaGreatDoorRows
import GoSem.ClaimSeven
namespace Go.Proofs.YtldddgmhmolohaaGreatDoor
namespace Rows

/-- THE TIED CARD OF 'footmanlaw09.SitesSame'. -/
def sitesSameCard : Claim7 := { stood := { row := sitesSameRow, standIns := [], harness := (true, "bbee4251057fff9ffcc1287332f7176a1306d68fb8c237293094030f27d55143"), looks := true }, kinds := [], alts := [], laidByText := true, laidKinds := [.data, .data, .data, .data, .pinned], laidTests := true, laidLooks := .later }
def SitesSameCardSaid : Prop := Claim7.holds Tryz.pinned (.plain (OpenSpec.ofChange sitesSameSpec)) sitesSameCard

/-- THE TIED CARD OF 'footmanlaw09.SitesUsual'. -/
def sitesUsualCard : Claim7 := { stood := { row := sitesUsualRow, standIns := [], harness := (true, "bbee4251057fff9ffcc1287332f7176a1306d68fb8c237293094030f27d55143"), looks := true }, kinds := [], alts := [], laidByText := true, laidKinds := [.data, .data, .data, .data, .pinned], laidTests := true, laidLooks := .later }
def SitesUsualCardSaid : Prop := Claim7.holds Tryz.pinned (.plain (OpenSpec.ofChange sitesUsualSpec)) sitesUsualCard

/-- THE TIED CARD OF 'footmanlaw09.SitesThree'. -/
def sitesThreeCard : Claim7 := { stood := { row := sitesThreeRow, standIns := [], harness := (true, "bbee4251057fff9ffcc1287332f7176a1306d68fb8c237293094030f27d55143"), looks := true }, kinds := [], alts := [], laidByText := true, laidKinds := [.data, .data, .data, .data, .pinned], laidTests := true, laidLooks := .later }
def SitesThreeCardSaid : Prop := Claim7.holds Tryz.pinned (.plain (OpenSpec.ofChange sitesThreeSpec)) sitesThreeCard

/-- THE TIED CARD OF 'footmanlaw09.SitesBehind'. -/
def sitesBehindCard : Claim7 := { stood := { row := sitesBehindRow, standIns := [], harness := (true, "bbee4251057fff9ffcc1287332f7176a1306d68fb8c237293094030f27d55143"), looks := true }, kinds := [], alts := [], laidByText := true, laidKinds := [.data, .data, .data, .data, .pinned], laidTests := true, laidLooks := .later }
def SitesBehindCardSaid : Prop := Claim7.holds Tryz.pinned (.plain (OpenSpec.ofChange sitesBehindSpec)) sitesBehindCard

/-- THE TIED CARD OF 'footmanlaw09.SitesBoth'. -/
def sitesBothCard : Claim7 := { stood := { row := sitesBothRow, standIns := [], harness := (true, "bbee4251057fff9ffcc1287332f7176a1306d68fb8c237293094030f27d55143"), looks := true }, kinds := [], alts := [], laidByText := true, laidKinds := [.data, .data, .data, .data, .pinned], laidTests := true, laidLooks := .later }
def SitesBothCardSaid : Prop := Claim7.holds Tryz.pinned (.plain (OpenSpec.ofChange sitesBothSpec)) sitesBothCard

/-- THE TIED CARD OF 'footmanlaw09.SitesOrigin'. -/
def sitesOriginCard : Claim7 := { stood := { row := sitesOriginRow, standIns := [], harness := (true, "bbee4251057fff9ffcc1287332f7176a1306d68fb8c237293094030f27d55143"), looks := true }, kinds := [], alts := [], laidByText := true, laidKinds := [.data, .data, .data, .data, .pinned], laidTests := true, laidLooks := .later }
def SitesOriginCardSaid : Prop := Claim7.holds Tryz.pinned (.plain (OpenSpec.ofChange sitesOriginSpec)) sitesOriginCard

/-- THE SECOND FORM's CARD OF 'footmanlaw09.SitesSame'. -/
def sitesSameUptoCard : Claim7 := { stood := { row := sitesSameUptoRow, standIns := [], harness := (true, "bbee4251057fff9ffcc1287332f7176a1306d68fb8c237293094030f27d55143"), looks := true }, kinds := [], alts := [], laidByText := true, laidKinds := [.data, .data, .data, .data, .pinned], laidTests := true, laidLooks := .later }
def SitesSameUptoCardSaid : Prop := Claim7.holds Tryz.pinned (.plain (OpenSpec.upto sitesSameSpec)) sitesSameUptoCard

/-- THE SECOND FORM's CARD OF 'footmanlaw09.SitesUsual'. -/
def sitesUsualUptoCard : Claim7 := { stood := { row := sitesUsualUptoRow, standIns := [], harness := (true, "bbee4251057fff9ffcc1287332f7176a1306d68fb8c237293094030f27d55143"), looks := true }, kinds := [], alts := [], laidByText := true, laidKinds := [.data, .data, .data, .data, .pinned], laidTests := true, laidLooks := .later }
def SitesUsualUptoCardSaid : Prop := Claim7.holds Tryz.pinned (.plain (OpenSpec.upto sitesUsualSpec)) sitesUsualUptoCard

/-- THE SECOND FORM's CARD OF 'footmanlaw09.SitesThree'. -/
def sitesThreeUptoCard : Claim7 := { stood := { row := sitesThreeUptoRow, standIns := [], harness := (true, "bbee4251057fff9ffcc1287332f7176a1306d68fb8c237293094030f27d55143"), looks := true }, kinds := [], alts := [], laidByText := true, laidKinds := [.data, .data, .data, .data, .pinned], laidTests := true, laidLooks := .later }
def SitesThreeUptoCardSaid : Prop := Claim7.holds Tryz.pinned (.plain (OpenSpec.upto sitesThreeSpec)) sitesThreeUptoCard

/-- THE SECOND FORM's CARD OF 'footmanlaw09.SitesBehind'. -/
def sitesBehindUptoCard : Claim7 := { stood := { row := sitesBehindUptoRow, standIns := [], harness := (true, "bbee4251057fff9ffcc1287332f7176a1306d68fb8c237293094030f27d55143"), looks := true }, kinds := [], alts := [], laidByText := true, laidKinds := [.data, .data, .data, .data, .pinned], laidTests := true, laidLooks := .later }
def SitesBehindUptoCardSaid : Prop := Claim7.holds Tryz.pinned (.plain (OpenSpec.upto sitesBehindSpec)) sitesBehindUptoCard

/-- THE SECOND FORM's CARD OF 'footmanlaw09.SitesBoth'. -/
def sitesBothUptoCard : Claim7 := { stood := { row := sitesBothUptoRow, standIns := [], harness := (true, "bbee4251057fff9ffcc1287332f7176a1306d68fb8c237293094030f27d55143"), looks := true }, kinds := [], alts := [], laidByText := true, laidKinds := [.data, .data, .data, .data, .pinned], laidTests := true, laidLooks := .later }
def SitesBothUptoCardSaid : Prop := Claim7.holds Tryz.pinned (.plain (OpenSpec.upto sitesBothSpec)) sitesBothUptoCard

/-- THE SECOND FORM's CARD OF 'footmanlaw09.SitesOrigin'. -/
def sitesOriginUptoCard : Claim7 := { stood := { row := sitesOriginUptoRow, standIns := [], harness := (true, "bbee4251057fff9ffcc1287332f7176a1306d68fb8c237293094030f27d55143"), looks := true }, kinds := [], alts := [], laidByText := true, laidKinds := [.data, .data, .data, .data, .pinned], laidTests := true, laidLooks := .later }
def SitesOriginUptoCardSaid : Prop := Claim7.holds Tryz.pinned (.plain (OpenSpec.upto sitesOriginSpec)) sitesOriginUptoCard
end Rows
end Go.Proofs.YtldddgmhmolohaaGreatDoor
