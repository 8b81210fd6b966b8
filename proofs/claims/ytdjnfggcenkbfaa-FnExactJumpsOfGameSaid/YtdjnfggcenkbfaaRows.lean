/-
  No cell of these rows narrows 'for every input' (looked for: loops, veiled, ifaces, maps, wideKeys, modest, calm, conditions, laid).
  DERIVED. THE GIVEN ROWS OF THIS SEAT. 9 by the template 'for every input the law returns true; each argument reads behind the call as it read before'; 0 by the template 'total and deterministic' (their statements: YtdjnfggcenkbfaaTotals.lean).
  GIVEN WITH THE SEED: the statements are not yours to turn. If you find one false, say at which input.
  Laid BY PROGRAM, IN A SANDBOX (cutbox-rows.mjs): the forced cells as the released guide's own fill.sh prints them over the translation 2c0ed8ab7df51dfc… (all of the seat's roots in one cut). By AI agents, Wed Nov 11 2026. No macro, syntax, notation, axiom, sorry.
-/
import Derived.Test.YtdjnfggcenkbfaaChecked
import GoSem.Claim
import GoSem.ClaimJoined
import GoSem.ClaimMapViews
import Derived.JoinedTies
import Derived.KernelRfl
namespace Go.Proofs.Ytdjnfggcenkbfaa
/- THE CELL 'sum', in the pinned program and in every row, IS THE sha256 OF THE DUMP (.gsa) THAT YtdjnfggcenkbfaaProg.lean LOADS. Nothing in Lean hashes anything: it is a label: what it is worth is what the hold of that sum in a sandbox is worth. -/
noncomputable def Try.pinned : Pinned := { name := "ytdjnfggcenkbfaa", sum := "2c0ed8ab7df51dfc2297c4065be1db75e0f60c14a71b80b4dd7f5af43c361473", checked := Try.checked }
namespace Rows
def none {H : Type} : Left H := { results := [], args := [] }

/-- 'laws.FnExactIsGame': WHATEVER THE INPUT: true; the input reads as it did. -/
def fnExactIsGameSpec : ChangeSpec := { name := "fnExactIsGame", fn := fun _ => fun
  | [d1, d2] => { results := [.lit (.bool true)], args := [d1, d2] }
  | _ => none }
def fnExactIsGameRow : OpenClaim := { program := "ytdjnfggcenkbfaa", sum := "2c0ed8ab7df51dfc2297c4065be1db75e0f60c14a71b80b4dd7f5af43c361473", func := "loop.example/g01306/laws.FnExactIsGame", spec := "fnExactIsGame", apart := false }
def FnExactIsGameSaid : Prop := fnExactIsGameRow.holds Try.pinned (OpenSpec.ofChange fnExactIsGameSpec)

/-- ITS FALSE NEIGHBOUR: 'it returns false'. Refute it at one input. -/
def fnExactIsGameWrong : ChangeSpec := { name := "fnExactIsGame", fn := fun _ => fun
  | [d1, d2] => { results := [.lit (.bool false)], args := [d1, d2] }
  | _ => none }
def FnExactIsGameWrongFalsely : Prop := fnExactIsGameRow.holds Try.pinned (OpenSpec.ofChange fnExactIsGameWrong)

/-- 'laws.FnExactJumpsOfGame': WHATEVER THE INPUT: true; the input reads as it did. -/
def fnExactJumpsOfGameSpec : ChangeSpec := { name := "fnExactJumpsOfGame", fn := fun _ => fun
  | [d1, d2] => { results := [.lit (.bool true)], args := [d1, d2] }
  | _ => none }
def fnExactJumpsOfGameRow : OpenClaim := { program := "ytdjnfggcenkbfaa", sum := "2c0ed8ab7df51dfc2297c4065be1db75e0f60c14a71b80b4dd7f5af43c361473", func := "loop.example/g01306/laws.FnExactJumpsOfGame", spec := "fnExactJumpsOfGame", apart := false }
def FnExactJumpsOfGameSaid : Prop := fnExactJumpsOfGameRow.holds Try.pinned (OpenSpec.ofChange fnExactJumpsOfGameSpec)

/-- ITS FALSE NEIGHBOUR: 'it returns false'. Refute it at one input. -/
def fnExactJumpsOfGameWrong : ChangeSpec := { name := "fnExactJumpsOfGame", fn := fun _ => fun
  | [d1, d2] => { results := [.lit (.bool false)], args := [d1, d2] }
  | _ => none }
def FnExactJumpsOfGameWrongFalsely : Prop := fnExactJumpsOfGameRow.holds Try.pinned (OpenSpec.ofChange fnExactJumpsOfGameWrong)

/-- 'laws.FnExactThrowTo': WHATEVER THE INPUT: true; the input reads as it did. -/
def fnExactThrowToSpec : ChangeSpec := { name := "fnExactThrowTo", fn := fun _ => fun
  | [d1, d2, d3] => { results := [.lit (.bool true)], args := [d1, d2, d3] }
  | _ => none }
def fnExactThrowToRow : OpenClaim := { program := "ytdjnfggcenkbfaa", sum := "2c0ed8ab7df51dfc2297c4065be1db75e0f60c14a71b80b4dd7f5af43c361473", func := "loop.example/g01306/laws.FnExactThrowTo", spec := "fnExactThrowTo", apart := false }
def FnExactThrowToSaid : Prop := fnExactThrowToRow.holds Try.pinned (OpenSpec.ofChange fnExactThrowToSpec)

/-- ITS FALSE NEIGHBOUR: 'it returns false'. Refute it at one input. -/
def fnExactThrowToWrong : ChangeSpec := { name := "fnExactThrowTo", fn := fun _ => fun
  | [d1, d2, d3] => { results := [.lit (.bool false)], args := [d1, d2, d3] }
  | _ => none }
def FnExactThrowToWrongFalsely : Prop := fnExactThrowToRow.holds Try.pinned (OpenSpec.ofChange fnExactThrowToWrong)

/-- 'laws.FnExactFacesTo': WHATEVER THE INPUT: true; the input reads as it did. -/
def fnExactFacesToSpec : ChangeSpec := { name := "fnExactFacesTo", fn := fun _ => fun
  | [d1, d2, d3] => { results := [.lit (.bool true)], args := [d1, d2, d3] }
  | _ => none }
def fnExactFacesToRow : OpenClaim := { program := "ytdjnfggcenkbfaa", sum := "2c0ed8ab7df51dfc2297c4065be1db75e0f60c14a71b80b4dd7f5af43c361473", func := "loop.example/g01306/laws.FnExactFacesTo", spec := "fnExactFacesTo", apart := false }
def FnExactFacesToSaid : Prop := fnExactFacesToRow.holds Try.pinned (OpenSpec.ofChange fnExactFacesToSpec)

/-- ITS FALSE NEIGHBOUR: 'it returns false'. Refute it at one input. -/
def fnExactFacesToWrong : ChangeSpec := { name := "fnExactFacesTo", fn := fun _ => fun
  | [d1, d2, d3] => { results := [.lit (.bool false)], args := [d1, d2, d3] }
  | _ => none }
def FnExactFacesToWrongFalsely : Prop := fnExactFacesToRow.holds Try.pinned (OpenSpec.ofChange fnExactFacesToWrong)

/-- 'laws.FnExactPlayThrows': WHATEVER THE INPUT: true; the input reads as it did. -/
def fnExactPlayThrowsSpec : ChangeSpec := { name := "fnExactPlayThrows", fn := fun _ => fun
  | [d1, d2, d3] => { results := [.lit (.bool true)], args := [d1, d2, d3] }
  | _ => none }
def fnExactPlayThrowsRow : OpenClaim := { program := "ytdjnfggcenkbfaa", sum := "2c0ed8ab7df51dfc2297c4065be1db75e0f60c14a71b80b4dd7f5af43c361473", func := "loop.example/g01306/laws.FnExactPlayThrows", spec := "fnExactPlayThrows", apart := false }
def FnExactPlayThrowsSaid : Prop := fnExactPlayThrowsRow.holds Try.pinned (OpenSpec.ofChange fnExactPlayThrowsSpec)

/-- ITS FALSE NEIGHBOUR: 'it returns false'. Refute it at one input. -/
def fnExactPlayThrowsWrong : ChangeSpec := { name := "fnExactPlayThrows", fn := fun _ => fun
  | [d1, d2, d3] => { results := [.lit (.bool false)], args := [d1, d2, d3] }
  | _ => none }
def FnExactPlayThrowsWrongFalsely : Prop := fnExactPlayThrowsRow.holds Try.pinned (OpenSpec.ofChange fnExactPlayThrowsWrong)

/-- 'laws.FnExactPathOfThrows': WHATEVER THE INPUT: true; the input reads as it did. -/
def fnExactPathOfThrowsSpec : ChangeSpec := { name := "fnExactPathOfThrows", fn := fun _ => fun
  | [d1, d2, d3] => { results := [.lit (.bool true)], args := [d1, d2, d3] }
  | _ => none }
def fnExactPathOfThrowsRow : OpenClaim := { program := "ytdjnfggcenkbfaa", sum := "2c0ed8ab7df51dfc2297c4065be1db75e0f60c14a71b80b4dd7f5af43c361473", func := "loop.example/g01306/laws.FnExactPathOfThrows", spec := "fnExactPathOfThrows", apart := false }
def FnExactPathOfThrowsSaid : Prop := fnExactPathOfThrowsRow.holds Try.pinned (OpenSpec.ofChange fnExactPathOfThrowsSpec)

/-- ITS FALSE NEIGHBOUR: 'it returns false'. Refute it at one input. -/
def fnExactPathOfThrowsWrong : ChangeSpec := { name := "fnExactPathOfThrows", fn := fun _ => fun
  | [d1, d2, d3] => { results := [.lit (.bool false)], args := [d1, d2, d3] }
  | _ => none }
def FnExactPathOfThrowsWrongFalsely : Prop := fnExactPathOfThrowsRow.holds Try.pinned (OpenSpec.ofChange fnExactPathOfThrowsWrong)

/-- 'laws.FnExactFewestThrows': WHATEVER THE INPUT: true; the input reads as it did. -/
def fnExactFewestThrowsSpec : ChangeSpec := { name := "fnExactFewestThrows", fn := fun _ => fun
  | [d1, d2] => { results := [.lit (.bool true)], args := [d1, d2] }
  | _ => none }
def fnExactFewestThrowsRow : OpenClaim := { program := "ytdjnfggcenkbfaa", sum := "2c0ed8ab7df51dfc2297c4065be1db75e0f60c14a71b80b4dd7f5af43c361473", func := "loop.example/g01306/laws.FnExactFewestThrows", spec := "fnExactFewestThrows", apart := false }
def FnExactFewestThrowsSaid : Prop := fnExactFewestThrowsRow.holds Try.pinned (OpenSpec.ofChange fnExactFewestThrowsSpec)

/-- ITS FALSE NEIGHBOUR: 'it returns false'. Refute it at one input. -/
def fnExactFewestThrowsWrong : ChangeSpec := { name := "fnExactFewestThrows", fn := fun _ => fun
  | [d1, d2] => { results := [.lit (.bool false)], args := [d1, d2] }
  | _ => none }
def FnExactFewestThrowsWrongFalsely : Prop := fnExactFewestThrowsRow.holds Try.pinned (OpenSpec.ofChange fnExactFewestThrowsWrong)

/-- 'laws.FnExactLandingsOf': WHATEVER THE INPUT: true; the input reads as it did. -/
def fnExactLandingsOfSpec : ChangeSpec := { name := "fnExactLandingsOf", fn := fun _ => fun
  | [d1, d2] => { results := [.lit (.bool true)], args := [d1, d2] }
  | _ => none }
def fnExactLandingsOfRow : OpenClaim := { program := "ytdjnfggcenkbfaa", sum := "2c0ed8ab7df51dfc2297c4065be1db75e0f60c14a71b80b4dd7f5af43c361473", func := "loop.example/g01306/laws.FnExactLandingsOf", spec := "fnExactLandingsOf", apart := false }
def FnExactLandingsOfSaid : Prop := fnExactLandingsOfRow.holds Try.pinned (OpenSpec.ofChange fnExactLandingsOfSpec)

/-- ITS FALSE NEIGHBOUR: 'it returns false'. Refute it at one input. -/
def fnExactLandingsOfWrong : ChangeSpec := { name := "fnExactLandingsOf", fn := fun _ => fun
  | [d1, d2] => { results := [.lit (.bool false)], args := [d1, d2] }
  | _ => none }
def FnExactLandingsOfWrongFalsely : Prop := fnExactLandingsOfRow.holds Try.pinned (OpenSpec.ofChange fnExactLandingsOfWrong)

/-- 'laws.FnExactReachedFrom': WHATEVER THE INPUT: true; the input reads as it did. -/
def fnExactReachedFromSpec : ChangeSpec := { name := "fnExactReachedFrom", fn := fun _ => fun
  | [d1, d2] => { results := [.lit (.bool true)], args := [d1, d2] }
  | _ => none }
def fnExactReachedFromRow : OpenClaim := { program := "ytdjnfggcenkbfaa", sum := "2c0ed8ab7df51dfc2297c4065be1db75e0f60c14a71b80b4dd7f5af43c361473", func := "loop.example/g01306/laws.FnExactReachedFrom", spec := "fnExactReachedFrom", apart := false }
def FnExactReachedFromSaid : Prop := fnExactReachedFromRow.holds Try.pinned (OpenSpec.ofChange fnExactReachedFromSpec)

/-- ITS FALSE NEIGHBOUR: 'it returns false'. Refute it at one input. -/
def fnExactReachedFromWrong : ChangeSpec := { name := "fnExactReachedFrom", fn := fun _ => fun
  | [d1, d2] => { results := [.lit (.bool false)], args := [d1, d2] }
  | _ => none }
def FnExactReachedFromWrongFalsely : Prop := fnExactReachedFromRow.holds Try.pinned (OpenSpec.ofChange fnExactReachedFromWrong)

/- THE SECOND FORM. 'bulk': how many values and letters a reading holds, each counted each time it is reached (what is shared counts as often as it is met; a slice's spare places count too). A statement '..UptoSaid' is the law's where the arguments, and the package variables that the reading takes, are together of bulk at most 1048576: NARROWER than '..Said'. Prove '..Said' where nothing that the law and all that it calls make is longer than what came in: it says more and counts as full. Else prove '..UptoSaid'. A law counts once. -/
mutual
def uptoBulk {H : Type} : DataW H → Nat
  | .lit (.string bytes) => bytes.length + 1
  | .lit _ => 1
  | .nil => 1
  | .ptr d => uptoBulk d + 1
  | .slice elems spare => uptoBulkAll elems + uptoBulkAll spare + 1
  | .agg parts => uptoBulkAll parts + 1
  | .iface _ d => uptoBulk d + 1
  | .map entries => uptoBulkEntries entries + 1
  | .held _ => 1
def uptoBulkAll {H : Type} : List (DataW H) → Nat
  | [] => 0
  | d :: r => uptoBulk d + uptoBulkAll r
def uptoBulkEntries {H : Type} : List (Lit × DataW H) → Nat
  | [] => 0
  | x :: r => uptoBulkEntry x + uptoBulkEntries r
def uptoBulkEntry {H : Type} : Lit × DataW H → Nat
  | (.string bytes, d) => bytes.length + uptoBulk d + 1
  | (_, d) => uptoBulk d + 1
 end
def uptoSmall : (H : Type) → List (DataW H) → Bool := fun _ ds => decide (uptoBulkAll ds ≤ 1048576)
def OpenSpec.upto (s : _root_.Go.ChangeSpec) : _root_.Go.OpenSpec := { _root_.Go.OpenSpec.ofChange s with cond := some uptoSmall }

/-- 'laws.FnExactIsGame', WHERE WHAT IT READS IS OF BULK AT MOST 1048576: true; the input reads as it did. -/
def fnExactIsGameUptoRow : OpenClaim := { program := "ytdjnfggcenkbfaa", sum := "2c0ed8ab7df51dfc2297c4065be1db75e0f60c14a71b80b4dd7f5af43c361473", func := "loop.example/g01306/laws.FnExactIsGame", spec := "fnExactIsGame", apart := false, narrowed := true }
def FnExactIsGameUptoSaid : Prop := fnExactIsGameUptoRow.holds Try.pinned (OpenSpec.upto fnExactIsGameSpec)

/-- 'laws.FnExactJumpsOfGame', WHERE WHAT IT READS IS OF BULK AT MOST 1048576: true; the input reads as it did. -/
def fnExactJumpsOfGameUptoRow : OpenClaim := { program := "ytdjnfggcenkbfaa", sum := "2c0ed8ab7df51dfc2297c4065be1db75e0f60c14a71b80b4dd7f5af43c361473", func := "loop.example/g01306/laws.FnExactJumpsOfGame", spec := "fnExactJumpsOfGame", apart := false, narrowed := true }
def FnExactJumpsOfGameUptoSaid : Prop := fnExactJumpsOfGameUptoRow.holds Try.pinned (OpenSpec.upto fnExactJumpsOfGameSpec)

/-- 'laws.FnExactThrowTo', WHERE WHAT IT READS IS OF BULK AT MOST 1048576: true; the input reads as it did. -/
def fnExactThrowToUptoRow : OpenClaim := { program := "ytdjnfggcenkbfaa", sum := "2c0ed8ab7df51dfc2297c4065be1db75e0f60c14a71b80b4dd7f5af43c361473", func := "loop.example/g01306/laws.FnExactThrowTo", spec := "fnExactThrowTo", apart := false, narrowed := true }
def FnExactThrowToUptoSaid : Prop := fnExactThrowToUptoRow.holds Try.pinned (OpenSpec.upto fnExactThrowToSpec)

/-- 'laws.FnExactFacesTo', WHERE WHAT IT READS IS OF BULK AT MOST 1048576: true; the input reads as it did. -/
def fnExactFacesToUptoRow : OpenClaim := { program := "ytdjnfggcenkbfaa", sum := "2c0ed8ab7df51dfc2297c4065be1db75e0f60c14a71b80b4dd7f5af43c361473", func := "loop.example/g01306/laws.FnExactFacesTo", spec := "fnExactFacesTo", apart := false, narrowed := true }
def FnExactFacesToUptoSaid : Prop := fnExactFacesToUptoRow.holds Try.pinned (OpenSpec.upto fnExactFacesToSpec)

/-- 'laws.FnExactPlayThrows', WHERE WHAT IT READS IS OF BULK AT MOST 1048576: true; the input reads as it did. -/
def fnExactPlayThrowsUptoRow : OpenClaim := { program := "ytdjnfggcenkbfaa", sum := "2c0ed8ab7df51dfc2297c4065be1db75e0f60c14a71b80b4dd7f5af43c361473", func := "loop.example/g01306/laws.FnExactPlayThrows", spec := "fnExactPlayThrows", apart := false, narrowed := true }
def FnExactPlayThrowsUptoSaid : Prop := fnExactPlayThrowsUptoRow.holds Try.pinned (OpenSpec.upto fnExactPlayThrowsSpec)

/-- 'laws.FnExactPathOfThrows', WHERE WHAT IT READS IS OF BULK AT MOST 1048576: true; the input reads as it did. -/
def fnExactPathOfThrowsUptoRow : OpenClaim := { program := "ytdjnfggcenkbfaa", sum := "2c0ed8ab7df51dfc2297c4065be1db75e0f60c14a71b80b4dd7f5af43c361473", func := "loop.example/g01306/laws.FnExactPathOfThrows", spec := "fnExactPathOfThrows", apart := false, narrowed := true }
def FnExactPathOfThrowsUptoSaid : Prop := fnExactPathOfThrowsUptoRow.holds Try.pinned (OpenSpec.upto fnExactPathOfThrowsSpec)

/-- 'laws.FnExactFewestThrows', WHERE WHAT IT READS IS OF BULK AT MOST 1048576: true; the input reads as it did. -/
def fnExactFewestThrowsUptoRow : OpenClaim := { program := "ytdjnfggcenkbfaa", sum := "2c0ed8ab7df51dfc2297c4065be1db75e0f60c14a71b80b4dd7f5af43c361473", func := "loop.example/g01306/laws.FnExactFewestThrows", spec := "fnExactFewestThrows", apart := false, narrowed := true }
def FnExactFewestThrowsUptoSaid : Prop := fnExactFewestThrowsUptoRow.holds Try.pinned (OpenSpec.upto fnExactFewestThrowsSpec)

/-- 'laws.FnExactLandingsOf', WHERE WHAT IT READS IS OF BULK AT MOST 1048576: true; the input reads as it did. -/
def fnExactLandingsOfUptoRow : OpenClaim := { program := "ytdjnfggcenkbfaa", sum := "2c0ed8ab7df51dfc2297c4065be1db75e0f60c14a71b80b4dd7f5af43c361473", func := "loop.example/g01306/laws.FnExactLandingsOf", spec := "fnExactLandingsOf", apart := false, narrowed := true }
def FnExactLandingsOfUptoSaid : Prop := fnExactLandingsOfUptoRow.holds Try.pinned (OpenSpec.upto fnExactLandingsOfSpec)

/-- 'laws.FnExactReachedFrom', WHERE WHAT IT READS IS OF BULK AT MOST 1048576: true; the input reads as it did. -/
def fnExactReachedFromUptoRow : OpenClaim := { program := "ytdjnfggcenkbfaa", sum := "2c0ed8ab7df51dfc2297c4065be1db75e0f60c14a71b80b4dd7f5af43c361473", func := "loop.example/g01306/laws.FnExactReachedFrom", spec := "fnExactReachedFrom", apart := false, narrowed := true }
def FnExactReachedFromUptoSaid : Prop := fnExactReachedFromUptoRow.holds Try.pinned (OpenSpec.upto fnExactReachedFromSpec)

end Rows
end Go.Proofs.Ytdjnfggcenkbfaa
