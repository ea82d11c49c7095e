/-
  DERIVED. GIVEN WITH THE SEED: THE CARDS: each row of YtbfnbjffobhllaaDoorRows.lean that lists a variable, with what it lists TIED to the program's text (the seventh form; the later family's looks); each row that meets fmt, with fmt's text TOLD by the authors' own Lean function (tested against real Go, not proved from fmt's source: count such statements apart). THE CARD IS WHAT COUNTS. Prove the row's statement (the work); the ties are given (YtbfnbjffobhllaaDoorTie.lean); close each card by the builder's one call (the guide's Derived/Test/ToyasCard.lean, 'card_holds'). Laid BY PROGRAM, IN A SANDBOX (cutbox-door.mjs). By AI agents, Wed Nov 11 2026. No macro, syntax, notation, axiom, sorry.
-/
import Derived.Test.YtbfnbjffobhllaaDoorRows
import GoSem.ClaimSeven
namespace Go.Proofs.YtbfnbjffobhllaaDoor
namespace Rows

/-- THE TIED CARD OF 'footmanlaw12.HeadsFinds'. -/
def headsFindsCard : Claim7 := { stood := { row := headsFindsRow, standIns := [], harness := (true, "21bf96650937c3b223c181b857bfb2203bfe7a669cf3c5c472a13867445019f3"), looks := false }, kinds := [], alts := [], laidByText := true, laidKinds := [.data, .data, .data], laidTests := true, laidLooks := .later }
def HeadsFindsCardSaid : Prop := Claim7.holds Tryd.pinned (.plain (OpenSpec.ofChange headsFindsSpec)) headsFindsCard

/-- THE TIED CARD OF 'footmanlaw12.HeadsBack'. -/
def headsBackCard : Claim7 := { stood := { row := headsBackRow, standIns := [], harness := (true, "21bf96650937c3b223c181b857bfb2203bfe7a669cf3c5c472a13867445019f3"), looks := false }, kinds := [], alts := [], laidByText := true, laidKinds := [.data, .pinned], laidTests := true, laidLooks := .later }
def HeadsBackCardSaid : Prop := Claim7.holds Tryd.pinned (.plain (OpenSpec.ofChange headsBackSpec)) headsBackCard

/-- THE TIED CARD OF 'footmanlaw12.HeadsMore'. -/
def headsMoreCard : Claim7 := { stood := { row := headsMoreRow, standIns := [], harness := (true, "21bf96650937c3b223c181b857bfb2203bfe7a669cf3c5c472a13867445019f3"), looks := false }, kinds := [], alts := [], laidByText := true, laidKinds := [.data, .pinned], laidTests := true, laidLooks := .later }
def HeadsMoreCardSaid : Prop := Claim7.holds Tryd.pinned (.plain (OpenSpec.ofChange headsMoreSpec)) headsMoreCard

/-- THE TIED CARD OF 'footmanlaw12.HeadsAnswer'. -/
def headsAnswerCard : Claim7 := { stood := { row := headsAnswerRow, standIns := [], harness := (true, "21bf96650937c3b223c181b857bfb2203bfe7a669cf3c5c472a13867445019f3"), looks := false }, kinds := [], alts := [], laidByText := true, laidKinds := [.data, .pinned], laidTests := true, laidLooks := .later }
def HeadsAnswerCardSaid : Prop := Claim7.holds Tryd.pinned (.plain (OpenSpec.ofChange headsAnswerSpec)) headsAnswerCard

/-- THE TIED CARD OF 'footmanlaw12.HeadsLines'. -/
def headsLinesCard : Claim7 := { stood := { row := headsLinesRow, standIns := [], harness := (true, "21bf96650937c3b223c181b857bfb2203bfe7a669cf3c5c472a13867445019f3"), looks := false }, kinds := [], alts := [], laidByText := true, laidKinds := [.data, .pinned], laidTests := true, laidLooks := .later }
def HeadsLinesCardSaid : Prop := Claim7.holds Tryd.pinned (.plain (OpenSpec.ofChange headsLinesSpec)) headsLinesCard

/-- THE TIED CARD OF 'footmanlaw12.HeadsNames'. -/
def headsNamesCard : Claim7 := { stood := { row := headsNamesRow, standIns := [], harness := (true, "21bf96650937c3b223c181b857bfb2203bfe7a669cf3c5c472a13867445019f3"), looks := false }, kinds := [], alts := [], laidByText := true, laidKinds := [.data, .pinned], laidTests := true, laidLooks := .later }
def HeadsNamesCardSaid : Prop := Claim7.holds Tryd.pinned (.plain (OpenSpec.ofChange headsNamesSpec)) headsNamesCard

/-- THE TIED CARD OF 'footmanlaw12.HeadsLimit'. -/
def headsLimitCard : Claim7 := { stood := { row := headsLimitRow, standIns := [], harness := (true, "21bf96650937c3b223c181b857bfb2203bfe7a669cf3c5c472a13867445019f3"), looks := false }, kinds := [], alts := [], laidByText := true, laidKinds := [.data, .pinned], laidTests := true, laidLooks := .later }
def HeadsLimitCardSaid : Prop := Claim7.holds Tryd.pinned (.plain (OpenSpec.ofChange headsLimitSpec)) headsLimitCard

/-- THE SECOND FORM's CARD OF 'footmanlaw12.HeadsFinds'. -/
def headsFindsUptoCard : Claim7 := { stood := { row := headsFindsUptoRow, standIns := [], harness := (true, "21bf96650937c3b223c181b857bfb2203bfe7a669cf3c5c472a13867445019f3"), looks := false }, kinds := [], alts := [], laidByText := true, laidKinds := [.data, .data, .data], laidTests := true, laidLooks := .later }
def HeadsFindsUptoCardSaid : Prop := Claim7.holds Tryd.pinned (.plain (OpenSpec.upto headsFindsSpec)) headsFindsUptoCard

/-- THE SECOND FORM's CARD OF 'footmanlaw12.HeadsBack'. -/
def headsBackUptoCard : Claim7 := { stood := { row := headsBackUptoRow, standIns := [], harness := (true, "21bf96650937c3b223c181b857bfb2203bfe7a669cf3c5c472a13867445019f3"), looks := false }, kinds := [], alts := [], laidByText := true, laidKinds := [.data, .pinned], laidTests := true, laidLooks := .later }
def HeadsBackUptoCardSaid : Prop := Claim7.holds Tryd.pinned (.plain (OpenSpec.upto headsBackSpec)) headsBackUptoCard

/-- THE SECOND FORM's CARD OF 'footmanlaw12.HeadsMore'. -/
def headsMoreUptoCard : Claim7 := { stood := { row := headsMoreUptoRow, standIns := [], harness := (true, "21bf96650937c3b223c181b857bfb2203bfe7a669cf3c5c472a13867445019f3"), looks := false }, kinds := [], alts := [], laidByText := true, laidKinds := [.data, .pinned], laidTests := true, laidLooks := .later }
def HeadsMoreUptoCardSaid : Prop := Claim7.holds Tryd.pinned (.plain (OpenSpec.upto headsMoreSpec)) headsMoreUptoCard

/-- THE SECOND FORM's CARD OF 'footmanlaw12.HeadsAnswer'. -/
def headsAnswerUptoCard : Claim7 := { stood := { row := headsAnswerUptoRow, standIns := [], harness := (true, "21bf96650937c3b223c181b857bfb2203bfe7a669cf3c5c472a13867445019f3"), looks := false }, kinds := [], alts := [], laidByText := true, laidKinds := [.data, .pinned], laidTests := true, laidLooks := .later }
def HeadsAnswerUptoCardSaid : Prop := Claim7.holds Tryd.pinned (.plain (OpenSpec.upto headsAnswerSpec)) headsAnswerUptoCard

/-- THE SECOND FORM's CARD OF 'footmanlaw12.HeadsLines'. -/
def headsLinesUptoCard : Claim7 := { stood := { row := headsLinesUptoRow, standIns := [], harness := (true, "21bf96650937c3b223c181b857bfb2203bfe7a669cf3c5c472a13867445019f3"), looks := false }, kinds := [], alts := [], laidByText := true, laidKinds := [.data, .pinned], laidTests := true, laidLooks := .later }
def HeadsLinesUptoCardSaid : Prop := Claim7.holds Tryd.pinned (.plain (OpenSpec.upto headsLinesSpec)) headsLinesUptoCard

/-- THE SECOND FORM's CARD OF 'footmanlaw12.HeadsNames'. -/
def headsNamesUptoCard : Claim7 := { stood := { row := headsNamesUptoRow, standIns := [], harness := (true, "21bf96650937c3b223c181b857bfb2203bfe7a669cf3c5c472a13867445019f3"), looks := false }, kinds := [], alts := [], laidByText := true, laidKinds := [.data, .pinned], laidTests := true, laidLooks := .later }
def HeadsNamesUptoCardSaid : Prop := Claim7.holds Tryd.pinned (.plain (OpenSpec.upto headsNamesSpec)) headsNamesUptoCard

/-- THE SECOND FORM's CARD OF 'footmanlaw12.HeadsLimit'. -/
def headsLimitUptoCard : Claim7 := { stood := { row := headsLimitUptoRow, standIns := [], harness := (true, "21bf96650937c3b223c181b857bfb2203bfe7a669cf3c5c472a13867445019f3"), looks := false }, kinds := [], alts := [], laidByText := true, laidKinds := [.data, .pinned], laidTests := true, laidLooks := .later }
def HeadsLimitUptoCardSaid : Prop := Claim7.holds Tryd.pinned (.plain (OpenSpec.upto headsLimitSpec)) headsLimitUptoCard
end Rows
end Go.Proofs.YtbfnbjffobhllaaDoor
