/-
  DERIVED. GIVEN WITH THE SEED: THE CARDS: each row of YtjeejpgkhjblnaaDoorRows.lean that lists a variable, with what it lists TIED to the program's text (the seventh form; the later family's looks); each row that meets fmt, with fmt's text TOLD by the authors' own Lean function (tested against real Go, not proved from fmt's source: count such statements apart). THE CARD IS WHAT COUNTS. Prove the row's statement (the work); the ties are given (YtjeejpgkhjblnaaDoorTie.lean); close each card by the builder's one call (the guide's Derived/Test/ToyasCard.lean, 'card_holds'). Laid BY PROGRAM, IN A SANDBOX (cutbox-door.mjs). By AI agents, Wed Nov 11 2026. No macro, syntax, notation, axiom, sorry.
-/
import Derived.Test.YtjeejpgkhjblnaaDoorRows
import GoSem.ClaimSeven
namespace Go.Proofs.YtjeejpgkhjblnaaDoor
namespace Rows

/-- THE TIED CARD OF 'footmanlaw01.AsciiTrims'. -/
def asciiTrimsCard : Claim7 := { stood := { row := asciiTrimsRow, standIns := [], harness := (true, "58c88a173cc5d966523f6611d9255ceb418cb6ea5dd932c4c5dc4eecdf72f184"), looks := false }, kinds := [], alts := [], laidByText := true, laidKinds := [.data, .pinned], laidTests := true, laidLooks := .later }
def AsciiTrimsCardSaid : Prop := Claim7.holds Tryd.pinned (.plain (OpenSpec.ofChange asciiTrimsSpec)) asciiTrimsCard

/-- THE TIED CARD OF 'footmanlaw01.AsciiSplits'. -/
def asciiSplitsCard : Claim7 := { stood := { row := asciiSplitsRow, standIns := [], harness := (true, "58c88a173cc5d966523f6611d9255ceb418cb6ea5dd932c4c5dc4eecdf72f184"), looks := false }, kinds := [], alts := [], laidByText := true, laidKinds := [.data, .data, .data, .data, .pinned], laidTests := true, laidLooks := .later }
def AsciiSplitsCardSaid : Prop := Claim7.holds Tryd.pinned (.plain (OpenSpec.ofChange asciiSplitsSpec)) asciiSplitsCard

/-- THE TIED CARD OF 'footmanlaw01.AsciiAgain'. -/
def asciiAgainCard : Claim7 := { stood := { row := asciiAgainRow, standIns := [], harness := (true, "58c88a173cc5d966523f6611d9255ceb418cb6ea5dd932c4c5dc4eecdf72f184"), looks := false }, kinds := [], alts := [], laidByText := true, laidKinds := [.data, .pinned], laidTests := true, laidLooks := .later }
def AsciiAgainCardSaid : Prop := Claim7.holds Tryd.pinned (.plain (OpenSpec.ofChange asciiAgainSpec)) asciiAgainCard

/-- THE TIED CARD OF 'footmanlaw01.AsciiTrimmed'. -/
def asciiTrimmedCard : Claim7 := { stood := { row := asciiTrimmedRow, standIns := [], harness := (true, "58c88a173cc5d966523f6611d9255ceb418cb6ea5dd932c4c5dc4eecdf72f184"), looks := false }, kinds := [], alts := [], laidByText := true, laidKinds := [.data, .pinned], laidTests := true, laidLooks := .later }
def AsciiTrimmedCardSaid : Prop := Claim7.holds Tryd.pinned (.plain (OpenSpec.ofChange asciiTrimmedSpec)) asciiTrimmedCard

/-- THE TIED CARD OF 'footmanlaw01.AsciiParts'. -/
def asciiPartsCard : Claim7 := { stood := { row := asciiPartsRow, standIns := [], harness := (true, "58c88a173cc5d966523f6611d9255ceb418cb6ea5dd932c4c5dc4eecdf72f184"), looks := false }, kinds := [], alts := [], laidByText := true, laidKinds := [.data, .pinned], laidTests := true, laidLooks := .later }
def AsciiPartsCardSaid : Prop := Claim7.holds Tryd.pinned (.plain (OpenSpec.ofChange asciiPartsSpec)) asciiPartsCard

/-- THE TIED CARD OF 'footmanlaw01.AsciiDigits'. -/
def asciiDigitsCard : Claim7 := { stood := { row := asciiDigitsRow, standIns := [], harness := (true, "58c88a173cc5d966523f6611d9255ceb418cb6ea5dd932c4c5dc4eecdf72f184"), looks := false }, kinds := [], alts := [], laidByText := true, laidKinds := [.data, .pinned], laidTests := true, laidLooks := .later }
def AsciiDigitsCardSaid : Prop := Claim7.holds Tryd.pinned (.plain (OpenSpec.ofChange asciiDigitsSpec)) asciiDigitsCard

/-- THE TIED CARD OF 'footmanlaw01.AsciiSigns'. -/
def asciiSignsCard : Claim7 := { stood := { row := asciiSignsRow, standIns := [], harness := (true, "58c88a173cc5d966523f6611d9255ceb418cb6ea5dd932c4c5dc4eecdf72f184"), looks := false }, kinds := [], alts := [], laidByText := true, laidKinds := [.data, .pinned], laidTests := true, laidLooks := .later }
def AsciiSignsCardSaid : Prop := Claim7.holds Tryd.pinned (.plain (OpenSpec.ofChange asciiSignsSpec)) asciiSignsCard

/-- THE SECOND FORM's CARD OF 'footmanlaw01.AsciiTrims'. -/
def asciiTrimsUptoCard : Claim7 := { stood := { row := asciiTrimsUptoRow, standIns := [], harness := (true, "58c88a173cc5d966523f6611d9255ceb418cb6ea5dd932c4c5dc4eecdf72f184"), looks := false }, kinds := [], alts := [], laidByText := true, laidKinds := [.data, .pinned], laidTests := true, laidLooks := .later }
def AsciiTrimsUptoCardSaid : Prop := Claim7.holds Tryd.pinned (.plain (OpenSpec.upto asciiTrimsSpec)) asciiTrimsUptoCard

/-- THE SECOND FORM's CARD OF 'footmanlaw01.AsciiSplits'. -/
def asciiSplitsUptoCard : Claim7 := { stood := { row := asciiSplitsUptoRow, standIns := [], harness := (true, "58c88a173cc5d966523f6611d9255ceb418cb6ea5dd932c4c5dc4eecdf72f184"), looks := false }, kinds := [], alts := [], laidByText := true, laidKinds := [.data, .data, .data, .data, .pinned], laidTests := true, laidLooks := .later }
def AsciiSplitsUptoCardSaid : Prop := Claim7.holds Tryd.pinned (.plain (OpenSpec.upto asciiSplitsSpec)) asciiSplitsUptoCard

/-- THE SECOND FORM's CARD OF 'footmanlaw01.AsciiAgain'. -/
def asciiAgainUptoCard : Claim7 := { stood := { row := asciiAgainUptoRow, standIns := [], harness := (true, "58c88a173cc5d966523f6611d9255ceb418cb6ea5dd932c4c5dc4eecdf72f184"), looks := false }, kinds := [], alts := [], laidByText := true, laidKinds := [.data, .pinned], laidTests := true, laidLooks := .later }
def AsciiAgainUptoCardSaid : Prop := Claim7.holds Tryd.pinned (.plain (OpenSpec.upto asciiAgainSpec)) asciiAgainUptoCard

/-- THE SECOND FORM's CARD OF 'footmanlaw01.AsciiTrimmed'. -/
def asciiTrimmedUptoCard : Claim7 := { stood := { row := asciiTrimmedUptoRow, standIns := [], harness := (true, "58c88a173cc5d966523f6611d9255ceb418cb6ea5dd932c4c5dc4eecdf72f184"), looks := false }, kinds := [], alts := [], laidByText := true, laidKinds := [.data, .pinned], laidTests := true, laidLooks := .later }
def AsciiTrimmedUptoCardSaid : Prop := Claim7.holds Tryd.pinned (.plain (OpenSpec.upto asciiTrimmedSpec)) asciiTrimmedUptoCard

/-- THE SECOND FORM's CARD OF 'footmanlaw01.AsciiParts'. -/
def asciiPartsUptoCard : Claim7 := { stood := { row := asciiPartsUptoRow, standIns := [], harness := (true, "58c88a173cc5d966523f6611d9255ceb418cb6ea5dd932c4c5dc4eecdf72f184"), looks := false }, kinds := [], alts := [], laidByText := true, laidKinds := [.data, .pinned], laidTests := true, laidLooks := .later }
def AsciiPartsUptoCardSaid : Prop := Claim7.holds Tryd.pinned (.plain (OpenSpec.upto asciiPartsSpec)) asciiPartsUptoCard

/-- THE SECOND FORM's CARD OF 'footmanlaw01.AsciiDigits'. -/
def asciiDigitsUptoCard : Claim7 := { stood := { row := asciiDigitsUptoRow, standIns := [], harness := (true, "58c88a173cc5d966523f6611d9255ceb418cb6ea5dd932c4c5dc4eecdf72f184"), looks := false }, kinds := [], alts := [], laidByText := true, laidKinds := [.data, .pinned], laidTests := true, laidLooks := .later }
def AsciiDigitsUptoCardSaid : Prop := Claim7.holds Tryd.pinned (.plain (OpenSpec.upto asciiDigitsSpec)) asciiDigitsUptoCard

/-- THE SECOND FORM's CARD OF 'footmanlaw01.AsciiSigns'. -/
def asciiSignsUptoCard : Claim7 := { stood := { row := asciiSignsUptoRow, standIns := [], harness := (true, "58c88a173cc5d966523f6611d9255ceb418cb6ea5dd932c4c5dc4eecdf72f184"), looks := false }, kinds := [], alts := [], laidByText := true, laidKinds := [.data, .pinned], laidTests := true, laidLooks := .later }
def AsciiSignsUptoCardSaid : Prop := Claim7.holds Tryd.pinned (.plain (OpenSpec.upto asciiSignsSpec)) asciiSignsUptoCard
end Rows
end Go.Proofs.YtjeejpgkhjblnaaDoor
