/-
  No cell of these rows narrows 'for every input' (looked for: loops, veiled, ifaces, maps, wideKeys, modest, calm, conditions, laid).
  DERIVED. THE GIVEN ROWS OF THIS SEAT. 8 by the template 'for every input the law returns true; each argument reads behind the call as it read before'; 0 by the template 'total and deterministic' (their statements: YtamcdpgjgpohpaaTotals.lean).
  GIVEN WITH THE SEED: the statements are not yours to turn. If you find one false, say at which input.
  Laid BY PROGRAM, IN A SANDBOX (cutbox-rows.mjs): the forced cells as the released guide's own fill.sh prints them over the translation 8039c882f7e35557… (all of the seat's roots in one cut). By AI agents, Wed Nov 11 2026. No macro, syntax, notation, axiom, sorry.
-/
import Derived.Test.YtamcdpgjgpohpaaChecked
import GoSem.Claim
import GoSem.ClaimJoined
import GoSem.ClaimMapViews
import Derived.JoinedTies
import Derived.KernelRfl
namespace Go.Proofs.Ytamcdpgjgpohpaa
/- THE CELL 'sum', in the pinned program and in every row, IS THE sha256 OF THE DUMP (.gsa) THAT YtamcdpgjgpohpaaProg.lean LOADS. Nothing in Lean hashes anything: it is a label: what it is worth is what the hold of that sum in a sandbox is worth. -/
noncomputable def Try.pinned : Pinned := { name := "ytamcdpgjgpohpaa", sum := "8039c882f7e355578c3dfcde6a17d8f0dc3d3015f914fc00dea31fd43b10b542", checked := Try.checked }
namespace Rows
def none {H : Type} : Left H := { results := [], args := [] }

/-- 'footmanlaw03.PercentHas': WHATEVER THE INPUT: true; the input reads as it did. -/
def percentHasSpec : ChangeSpec := { name := "percentHas", fn := fun _ => fun
  | [d1, d2] => { results := [.lit (.bool true)], args := [d1, d2] }
  | _ => none }
def percentHasRow : OpenClaim := { program := "ytamcdpgjgpohpaa", sum := "8039c882f7e355578c3dfcde6a17d8f0dc3d3015f914fc00dea31fd43b10b542", func := "footman/footmanlaw03.PercentHas", spec := "percentHas", unfollowed := true, recurses := true, apart := false }
def PercentHasSaid : Prop := percentHasRow.holds Try.pinned (OpenSpec.ofChange percentHasSpec)

/-- ITS FALSE NEIGHBOUR: 'it returns false'. Refute it at one input. -/
def percentHasWrong : ChangeSpec := { name := "percentHas", fn := fun _ => fun
  | [d1, d2] => { results := [.lit (.bool false)], args := [d1, d2] }
  | _ => none }
def PercentHasWrongFalsely : Prop := percentHasRow.holds Try.pinned (OpenSpec.ofChange percentHasWrong)

/-- 'footmanlaw03.PercentEncodes': WHATEVER THE INPUT: true; the input reads as it did. -/
def percentEncodesSpec : ChangeSpec := { name := "percentEncodes", fn := fun _ => fun
  | [d1, d2] => { results := [.lit (.bool true)], args := [d1, d2] }
  | _ => none }
def percentEncodesRow : OpenClaim := { program := "ytamcdpgjgpohpaa", sum := "8039c882f7e355578c3dfcde6a17d8f0dc3d3015f914fc00dea31fd43b10b542", func := "footman/footmanlaw03.PercentEncodes", spec := "percentEncodes", unfollowed := true, recurses := true, apart := false }
def PercentEncodesSaid : Prop := percentEncodesRow.holds Try.pinned (OpenSpec.ofChange percentEncodesSpec)

/-- ITS FALSE NEIGHBOUR: 'it returns false'. Refute it at one input. -/
def percentEncodesWrong : ChangeSpec := { name := "percentEncodes", fn := fun _ => fun
  | [d1, d2] => { results := [.lit (.bool false)], args := [d1, d2] }
  | _ => none }
def PercentEncodesWrongFalsely : Prop := percentEncodesRow.holds Try.pinned (OpenSpec.ofChange percentEncodesWrong)

/-- 'footmanlaw03.PercentDecodes': WHATEVER THE INPUT: true; the input reads as it did. -/
def percentDecodesSpec : ChangeSpec := { name := "percentDecodes", fn := fun _ => fun
  | [d] => { results := [.lit (.bool true)], args := [d] }
  | _ => none }
def percentDecodesRow : OpenClaim := { program := "ytamcdpgjgpohpaa", sum := "8039c882f7e355578c3dfcde6a17d8f0dc3d3015f914fc00dea31fd43b10b542", func := "footman/footmanlaw03.PercentDecodes", spec := "percentDecodes", apart := false }
def PercentDecodesSaid : Prop := percentDecodesRow.holds Try.pinned (OpenSpec.ofChange percentDecodesSpec)

/-- ITS FALSE NEIGHBOUR: 'it returns false'. Refute it at one input. -/
def percentDecodesWrong : ChangeSpec := { name := "percentDecodes", fn := fun _ => fun
  | [d] => { results := [.lit (.bool false)], args := [d] }
  | _ => none }
def PercentDecodesWrongFalsely : Prop := percentDecodesRow.holds Try.pinned (OpenSpec.ofChange percentDecodesWrong)

/-- 'footmanlaw03.PercentBack': WHATEVER THE INPUT: true; the input reads as it did. -/
def percentBackSpec : ChangeSpec := { name := "percentBack", fn := fun _ => fun
  | [d1, d2] => { results := [.lit (.bool true)], args := [d1, d2] }
  | _ => none }
def percentBackRow : OpenClaim := { program := "ytamcdpgjgpohpaa", sum := "8039c882f7e355578c3dfcde6a17d8f0dc3d3015f914fc00dea31fd43b10b542", func := "footman/footmanlaw03.PercentBack", spec := "percentBack", unfollowed := true, recurses := true, apart := false }
def PercentBackSaid : Prop := percentBackRow.holds Try.pinned (OpenSpec.ofChange percentBackSpec)

/-- ITS FALSE NEIGHBOUR: 'it returns false'. Refute it at one input. -/
def percentBackWrong : ChangeSpec := { name := "percentBack", fn := fun _ => fun
  | [d1, d2] => { results := [.lit (.bool false)], args := [d1, d2] }
  | _ => none }
def PercentBackWrongFalsely : Prop := percentBackRow.holds Try.pinned (OpenSpec.ofChange percentBackWrong)

/-- 'footmanlaw03.PercentClean': WHATEVER THE INPUT: true; the input reads as it did. -/
def percentCleanSpec : ChangeSpec := { name := "percentClean", fn := fun _ => fun
  | [d1, d2] => { results := [.lit (.bool true)], args := [d1, d2] }
  | _ => none }
def percentCleanRow : OpenClaim := { program := "ytamcdpgjgpohpaa", sum := "8039c882f7e355578c3dfcde6a17d8f0dc3d3015f914fc00dea31fd43b10b542", func := "footman/footmanlaw03.PercentClean", spec := "percentClean", unfollowed := true, recurses := true, apart := false }
def PercentCleanSaid : Prop := percentCleanRow.holds Try.pinned (OpenSpec.ofChange percentCleanSpec)

/-- ITS FALSE NEIGHBOUR: 'it returns false'. Refute it at one input. -/
def percentCleanWrong : ChangeSpec := { name := "percentClean", fn := fun _ => fun
  | [d1, d2] => { results := [.lit (.bool false)], args := [d1, d2] }
  | _ => none }
def PercentCleanWrongFalsely : Prop := percentCleanRow.holds Try.pinned (OpenSpec.ofChange percentCleanWrong)

/-- 'footmanlaw03.PercentWithin': WHATEVER THE INPUT: true; the input reads as it did. -/
def percentWithinSpec : ChangeSpec := { name := "percentWithin", fn := fun _ => fun
  | [d1, d2] => { results := [.lit (.bool true)], args := [d1, d2] }
  | _ => none }
def percentWithinRow : OpenClaim := { program := "ytamcdpgjgpohpaa", sum := "8039c882f7e355578c3dfcde6a17d8f0dc3d3015f914fc00dea31fd43b10b542", func := "footman/footmanlaw03.PercentWithin", spec := "percentWithin", unfollowed := true, recurses := true, apart := false }
def PercentWithinSaid : Prop := percentWithinRow.holds Try.pinned (OpenSpec.ofChange percentWithinSpec)

/-- ITS FALSE NEIGHBOUR: 'it returns false'. Refute it at one input. -/
def percentWithinWrong : ChangeSpec := { name := "percentWithin", fn := fun _ => fun
  | [d1, d2] => { results := [.lit (.bool false)], args := [d1, d2] }
  | _ => none }
def PercentWithinWrongFalsely : Prop := percentWithinRow.holds Try.pinned (OpenSpec.ofChange percentWithinWrong)

/-- 'footmanlaw03.PercentJoins': WHATEVER THE INPUT: true; the input reads as it did. -/
def percentJoinsSpec : ChangeSpec := { name := "percentJoins", fn := fun _ => fun
  | [d1, d2, d3] => { results := [.lit (.bool true)], args := [d1, d2, d3] }
  | _ => none }
def percentJoinsRow : OpenClaim := { program := "ytamcdpgjgpohpaa", sum := "8039c882f7e355578c3dfcde6a17d8f0dc3d3015f914fc00dea31fd43b10b542", func := "footman/footmanlaw03.PercentJoins", spec := "percentJoins", unfollowed := true, recurses := true, apart := false }
def PercentJoinsSaid : Prop := percentJoinsRow.holds Try.pinned (OpenSpec.ofChange percentJoinsSpec)

/-- ITS FALSE NEIGHBOUR: 'it returns false'. Refute it at one input. -/
def percentJoinsWrong : ChangeSpec := { name := "percentJoins", fn := fun _ => fun
  | [d1, d2, d3] => { results := [.lit (.bool false)], args := [d1, d2, d3] }
  | _ => none }
def PercentJoinsWrongFalsely : Prop := percentJoinsRow.holds Try.pinned (OpenSpec.ofChange percentJoinsWrong)

/-- 'footmanlaw03.PercentSigns': WHATEVER THE INPUT: true; the input reads as it did. -/
def percentSignsSpec : ChangeSpec := { name := "percentSigns", fn := fun _ => fun
  | [d1, d2] => { results := [.lit (.bool true)], args := [d1, d2] }
  | _ => none }
def percentSignsRow : OpenClaim := { program := "ytamcdpgjgpohpaa", sum := "8039c882f7e355578c3dfcde6a17d8f0dc3d3015f914fc00dea31fd43b10b542", func := "footman/footmanlaw03.PercentSigns", spec := "percentSigns", unfollowed := true, recurses := true, apart := false }
def PercentSignsSaid : Prop := percentSignsRow.holds Try.pinned (OpenSpec.ofChange percentSignsSpec)

/-- ITS FALSE NEIGHBOUR: 'it returns false'. Refute it at one input. -/
def percentSignsWrong : ChangeSpec := { name := "percentSigns", fn := fun _ => fun
  | [d1, d2] => { results := [.lit (.bool false)], args := [d1, d2] }
  | _ => none }
def PercentSignsWrongFalsely : Prop := percentSignsRow.holds Try.pinned (OpenSpec.ofChange percentSignsWrong)

/- THE SECOND FORM. 'bulk': how many values and letters a reading holds, each counted each time it is reached (what is shared counts as often as it is met; a slice's spare places count too). A statement '..UptoSaid' is the law's where the arguments, and the package variables that the reading takes, are together of bulk at most 1048576: NARROWER than '..Said'. Prove '..Said' where nothing that the law and all that it calls make is longer than what came in: it says more and counts as full. Else prove '..UptoSaid'. A law counts once. -/
mutual
def uptoBulk {H : Type} : DataW H → Nat
  | .lit (.string bytes) => bytes.length + 1
  | .lit _ => 1
  | .nil => 1
  | .ptr d => uptoBulk d + 1
  | .slice elems spare => uptoBulkAll elems + uptoBulkAll spare + 1
  | .agg parts => uptoBulkAll parts + 1
  | .iface _ d => uptoBulk d + 1
  | .map entries => uptoBulkEntries entries + 1
  | .held _ => 1
def uptoBulkAll {H : Type} : List (DataW H) → Nat
  | [] => 0
  | d :: r => uptoBulk d + uptoBulkAll r
def uptoBulkEntries {H : Type} : List (Lit × DataW H) → Nat
  | [] => 0
  | x :: r => uptoBulkEntry x + uptoBulkEntries r
def uptoBulkEntry {H : Type} : Lit × DataW H → Nat
  | (.string bytes, d) => bytes.length + uptoBulk d + 1
  | (_, d) => uptoBulk d + 1
 end
def uptoSmall : (H : Type) → List (DataW H) → Bool := fun _ ds => decide (uptoBulkAll ds ≤ 1048576)
def OpenSpec.upto (s : _root_.Go.ChangeSpec) : _root_.Go.OpenSpec := { _root_.Go.OpenSpec.ofChange s with cond := some uptoSmall }

/-- 'footmanlaw03.PercentHas', WHERE WHAT IT READS IS OF BULK AT MOST 1048576: true; the input reads as it did. -/
def percentHasUptoRow : OpenClaim := { program := "ytamcdpgjgpohpaa", sum := "8039c882f7e355578c3dfcde6a17d8f0dc3d3015f914fc00dea31fd43b10b542", func := "footman/footmanlaw03.PercentHas", spec := "percentHas", unfollowed := true, recurses := true, apart := false, narrowed := true }
def PercentHasUptoSaid : Prop := percentHasUptoRow.holds Try.pinned (OpenSpec.upto percentHasSpec)

/-- 'footmanlaw03.PercentEncodes', WHERE WHAT IT READS IS OF BULK AT MOST 1048576: true; the input reads as it did. -/
def percentEncodesUptoRow : OpenClaim := { program := "ytamcdpgjgpohpaa", sum := "8039c882f7e355578c3dfcde6a17d8f0dc3d3015f914fc00dea31fd43b10b542", func := "footman/footmanlaw03.PercentEncodes", spec := "percentEncodes", unfollowed := true, recurses := true, apart := false, narrowed := true }
def PercentEncodesUptoSaid : Prop := percentEncodesUptoRow.holds Try.pinned (OpenSpec.upto percentEncodesSpec)

/-- 'footmanlaw03.PercentDecodes', WHERE WHAT IT READS IS OF BULK AT MOST 1048576: true; the input reads as it did. -/
def percentDecodesUptoRow : OpenClaim := { program := "ytamcdpgjgpohpaa", sum := "8039c882f7e355578c3dfcde6a17d8f0dc3d3015f914fc00dea31fd43b10b542", func := "footman/footmanlaw03.PercentDecodes", spec := "percentDecodes", apart := false, narrowed := true }
def PercentDecodesUptoSaid : Prop := percentDecodesUptoRow.holds Try.pinned (OpenSpec.upto percentDecodesSpec)

/-- 'footmanlaw03.PercentBack', WHERE WHAT IT READS IS OF BULK AT MOST 1048576: true; the input reads as it did. -/
def percentBackUptoRow : OpenClaim := { program := "ytamcdpgjgpohpaa", sum := "8039c882f7e355578c3dfcde6a17d8f0dc3d3015f914fc00dea31fd43b10b542", func := "footman/footmanlaw03.PercentBack", spec := "percentBack", unfollowed := true, recurses := true, apart := false, narrowed := true }
def PercentBackUptoSaid : Prop := percentBackUptoRow.holds Try.pinned (OpenSpec.upto percentBackSpec)

/-- 'footmanlaw03.PercentClean', WHERE WHAT IT READS IS OF BULK AT MOST 1048576: true; the input reads as it did. -/
def percentCleanUptoRow : OpenClaim := { program := "ytamcdpgjgpohpaa", sum := "8039c882f7e355578c3dfcde6a17d8f0dc3d3015f914fc00dea31fd43b10b542", func := "footman/footmanlaw03.PercentClean", spec := "percentClean", unfollowed := true, recurses := true, apart := false, narrowed := true }
def PercentCleanUptoSaid : Prop := percentCleanUptoRow.holds Try.pinned (OpenSpec.upto percentCleanSpec)

/-- 'footmanlaw03.PercentWithin', WHERE WHAT IT READS IS OF BULK AT MOST 1048576: true; the input reads as it did. -/
def percentWithinUptoRow : OpenClaim := { program := "ytamcdpgjgpohpaa", sum := "8039c882f7e355578c3dfcde6a17d8f0dc3d3015f914fc00dea31fd43b10b542", func := "footman/footmanlaw03.PercentWithin", spec := "percentWithin", unfollowed := true, recurses := true, apart := false, narrowed := true }
def PercentWithinUptoSaid : Prop := percentWithinUptoRow.holds Try.pinned (OpenSpec.upto percentWithinSpec)

/-- 'footmanlaw03.PercentJoins', WHERE WHAT IT READS IS OF BULK AT MOST 1048576: true; the input reads as it did. -/
def percentJoinsUptoRow : OpenClaim := { program := "ytamcdpgjgpohpaa", sum := "8039c882f7e355578c3dfcde6a17d8f0dc3d3015f914fc00dea31fd43b10b542", func := "footman/footmanlaw03.PercentJoins", spec := "percentJoins", unfollowed := true, recurses := true, apart := false, narrowed := true }
def PercentJoinsUptoSaid : Prop := percentJoinsUptoRow.holds Try.pinned (OpenSpec.upto percentJoinsSpec)

/-- 'footmanlaw03.PercentSigns', WHERE WHAT IT READS IS OF BULK AT MOST 1048576: true; the input reads as it did. -/
def percentSignsUptoRow : OpenClaim := { program := "ytamcdpgjgpohpaa", sum := "8039c882f7e355578c3dfcde6a17d8f0dc3d3015f914fc00dea31fd43b10b542", func := "footman/footmanlaw03.PercentSigns", spec := "percentSigns", unfollowed := true, recurses := true, apart := false, narrowed := true }
def PercentSignsUptoSaid : Prop := percentSignsUptoRow.holds Try.pinned (OpenSpec.upto percentSignsSpec)

end Rows
end Go.Proofs.Ytamcdpgjgpohpaa
