/-
  No cell of these rows narrows 'for every input' (looked for: loops, veiled, ifaces, maps, wideKeys, modest, calm, conditions, laid).
  DERIVED. THE GIVEN ROWS OF THIS SEAT. 14 by the template 'for every input the law returns true; each argument reads behind the call as it read before'; 0 by the template 'total and deterministic' (their statements: YtiekdokgjdgajaaTotals.lean).
  GIVEN WITH THE SEED: the statements are not yours to turn. If you find one false, say at which input.
  Laid BY PROGRAM, IN A SANDBOX (cutbox-rows.mjs): the forced cells as the released guide's own fill.sh prints them over the translation 6de726af982f7def… (all of the seat's roots in one cut). By AI agents, Wed Nov 11 2026. No macro, syntax, notation, axiom, sorry.
-/
import Derived.Test.YtiekdokgjdgajaaChecked
import GoSem.Claim
import GoSem.ClaimJoined
import GoSem.ClaimMapViews
import Derived.JoinedTies
import Derived.KernelRfl
namespace Go.Proofs.Ytiekdokgjdgajaa
/- THE CELL 'sum', in the pinned program and in every row, IS THE sha256 OF THE DUMP (.gsa) THAT YtiekdokgjdgajaaProg.lean LOADS. Nothing in Lean hashes anything: it is a label: what it is worth is what the hold of that sum in a sandbox is worth. -/
noncomputable def Try.pinned : Pinned := { name := "ytiekdokgjdgajaa", sum := "6de726af982f7def7af9c17bcf7b64a0c751595abad6f51ea60a3c5136166d98", checked := Try.checked }
namespace Rows
def none {H : Type} : Left H := { results := [], args := [] }

/-- 'laws.FnExactThrowTo': WHATEVER THE INPUT: true; the input reads as it did. -/
def fnExactThrowToSpec : ChangeSpec := { name := "fnExactThrowTo", fn := fun _ => fun
  | [d1, d2, d3] => { results := [.lit (.bool true)], args := [d1, d2, d3] }
  | _ => none }
def fnExactThrowToRow : OpenClaim := { program := "ytiekdokgjdgajaa", sum := "6de726af982f7def7af9c17bcf7b64a0c751595abad6f51ea60a3c5136166d98", func := "loop.example/g01306/laws.FnExactThrowTo", spec := "fnExactThrowTo", apart := false }
def FnExactThrowToSaid : Prop := fnExactThrowToRow.holds Try.pinned (OpenSpec.ofChange fnExactThrowToSpec)

/-- ITS FALSE NEIGHBOUR: 'it returns false'. Refute it at one input. -/
def fnExactThrowToWrong : ChangeSpec := { name := "fnExactThrowTo", fn := fun _ => fun
  | [d1, d2, d3] => { results := [.lit (.bool false)], args := [d1, d2, d3] }
  | _ => none }
def FnExactThrowToWrongFalsely : Prop := fnExactThrowToRow.holds Try.pinned (OpenSpec.ofChange fnExactThrowToWrong)

/-- 'laws.FnExactFacesTo': WHATEVER THE INPUT: true; the input reads as it did. -/
def fnExactFacesToSpec : ChangeSpec := { name := "fnExactFacesTo", fn := fun _ => fun
  | [d1, d2, d3] => { results := [.lit (.bool true)], args := [d1, d2, d3] }
  | _ => none }
def fnExactFacesToRow : OpenClaim := { program := "ytiekdokgjdgajaa", sum := "6de726af982f7def7af9c17bcf7b64a0c751595abad6f51ea60a3c5136166d98", func := "loop.example/g01306/laws.FnExactFacesTo", spec := "fnExactFacesTo", apart := false }
def FnExactFacesToSaid : Prop := fnExactFacesToRow.holds Try.pinned (OpenSpec.ofChange fnExactFacesToSpec)

/-- ITS FALSE NEIGHBOUR: 'it returns false'. Refute it at one input. -/
def fnExactFacesToWrong : ChangeSpec := { name := "fnExactFacesTo", fn := fun _ => fun
  | [d1, d2, d3] => { results := [.lit (.bool false)], args := [d1, d2, d3] }
  | _ => none }
def FnExactFacesToWrongFalsely : Prop := fnExactFacesToRow.holds Try.pinned (OpenSpec.ofChange fnExactFacesToWrong)

/-- 'laws.FnExactLandingsOf': WHATEVER THE INPUT: true; the input reads as it did. -/
def fnExactLandingsOfSpec : ChangeSpec := { name := "fnExactLandingsOf", fn := fun _ => fun
  | [d1, d2] => { results := [.lit (.bool true)], args := [d1, d2] }
  | _ => none }
def fnExactLandingsOfRow : OpenClaim := { program := "ytiekdokgjdgajaa", sum := "6de726af982f7def7af9c17bcf7b64a0c751595abad6f51ea60a3c5136166d98", func := "loop.example/g01306/laws.FnExactLandingsOf", spec := "fnExactLandingsOf", apart := false }
def FnExactLandingsOfSaid : Prop := fnExactLandingsOfRow.holds Try.pinned (OpenSpec.ofChange fnExactLandingsOfSpec)

/-- ITS FALSE NEIGHBOUR: 'it returns false'. Refute it at one input. -/
def fnExactLandingsOfWrong : ChangeSpec := { name := "fnExactLandingsOf", fn := fun _ => fun
  | [d1, d2] => { results := [.lit (.bool false)], args := [d1, d2] }
  | _ => none }
def FnExactLandingsOfWrongFalsely : Prop := fnExactLandingsOfRow.holds Try.pinned (OpenSpec.ofChange fnExactLandingsOfWrong)

/-- 'laws.FnExactPlayThrows': WHATEVER THE INPUT: true; the input reads as it did. -/
def fnExactPlayThrowsSpec : ChangeSpec := { name := "fnExactPlayThrows", fn := fun _ => fun
  | [d1, d2, d3] => { results := [.lit (.bool true)], args := [d1, d2, d3] }
  | _ => none }
def fnExactPlayThrowsRow : OpenClaim := { program := "ytiekdokgjdgajaa", sum := "6de726af982f7def7af9c17bcf7b64a0c751595abad6f51ea60a3c5136166d98", func := "loop.example/g01306/laws.FnExactPlayThrows", spec := "fnExactPlayThrows", apart := false }
def FnExactPlayThrowsSaid : Prop := fnExactPlayThrowsRow.holds Try.pinned (OpenSpec.ofChange fnExactPlayThrowsSpec)

/-- ITS FALSE NEIGHBOUR: 'it returns false'. Refute it at one input. -/
def fnExactPlayThrowsWrong : ChangeSpec := { name := "fnExactPlayThrows", fn := fun _ => fun
  | [d1, d2, d3] => { results := [.lit (.bool false)], args := [d1, d2, d3] }
  | _ => none }
def FnExactPlayThrowsWrongFalsely : Prop := fnExactPlayThrowsRow.holds Try.pinned (OpenSpec.ofChange fnExactPlayThrowsWrong)

/-- 'laws.FnExactPathOfThrows': WHATEVER THE INPUT: true; the input reads as it did. -/
def fnExactPathOfThrowsSpec : ChangeSpec := { name := "fnExactPathOfThrows", fn := fun _ => fun
  | [d1, d2, d3] => { results := [.lit (.bool true)], args := [d1, d2, d3] }
  | _ => none }
def fnExactPathOfThrowsRow : OpenClaim := { program := "ytiekdokgjdgajaa", sum := "6de726af982f7def7af9c17bcf7b64a0c751595abad6f51ea60a3c5136166d98", func := "loop.example/g01306/laws.FnExactPathOfThrows", spec := "fnExactPathOfThrows", apart := false }
def FnExactPathOfThrowsSaid : Prop := fnExactPathOfThrowsRow.holds Try.pinned (OpenSpec.ofChange fnExactPathOfThrowsSpec)

/-- ITS FALSE NEIGHBOUR: 'it returns false'. Refute it at one input. -/
def fnExactPathOfThrowsWrong : ChangeSpec := { name := "fnExactPathOfThrows", fn := fun _ => fun
  | [d1, d2, d3] => { results := [.lit (.bool false)], args := [d1, d2, d3] }
  | _ => none }
def FnExactPathOfThrowsWrongFalsely : Prop := fnExactPathOfThrowsRow.holds Try.pinned (OpenSpec.ofChange fnExactPathOfThrowsWrong)

/-- 'laws.FnExactAddJump': WHATEVER THE INPUT: true; the input reads as it did. -/
def fnExactAddJumpSpec : ChangeSpec := { name := "fnExactAddJump", fn := fun _ => fun
  | [d1, d2] => { results := [.lit (.bool true)], args := [d1, d2] }
  | _ => none }
def fnExactAddJumpRow : OpenClaim := { program := "ytiekdokgjdgajaa", sum := "6de726af982f7def7af9c17bcf7b64a0c751595abad6f51ea60a3c5136166d98", func := "loop.example/g01306/laws.FnExactAddJump", spec := "fnExactAddJump", unfollowed := true, recurses := true, apart := false }
def FnExactAddJumpSaid : Prop := fnExactAddJumpRow.holds Try.pinned (OpenSpec.ofChange fnExactAddJumpSpec)

/-- ITS FALSE NEIGHBOUR: 'it returns false'. Refute it at one input. -/
def fnExactAddJumpWrong : ChangeSpec := { name := "fnExactAddJump", fn := fun _ => fun
  | [d1, d2] => { results := [.lit (.bool false)], args := [d1, d2] }
  | _ => none }
def FnExactAddJumpWrongFalsely : Prop := fnExactAddJumpRow.holds Try.pinned (OpenSpec.ofChange fnExactAddJumpWrong)

/-- 'laws.FnExactDropJump': WHATEVER THE INPUT: true; the input reads as it did. -/
def fnExactDropJumpSpec : ChangeSpec := { name := "fnExactDropJump", fn := fun _ => fun
  | [d1, d2] => { results := [.lit (.bool true)], args := [d1, d2] }
  | _ => none }
def fnExactDropJumpRow : OpenClaim := { program := "ytiekdokgjdgajaa", sum := "6de726af982f7def7af9c17bcf7b64a0c751595abad6f51ea60a3c5136166d98", func := "loop.example/g01306/laws.FnExactDropJump", spec := "fnExactDropJump", unfollowed := true, recurses := true, apart := false }
def FnExactDropJumpSaid : Prop := fnExactDropJumpRow.holds Try.pinned (OpenSpec.ofChange fnExactDropJumpSpec)

/-- ITS FALSE NEIGHBOUR: 'it returns false'. Refute it at one input. -/
def fnExactDropJumpWrong : ChangeSpec := { name := "fnExactDropJump", fn := fun _ => fun
  | [d1, d2] => { results := [.lit (.bool false)], args := [d1, d2] }
  | _ => none }
def FnExactDropJumpWrongFalsely : Prop := fnExactDropJumpRow.holds Try.pinned (OpenSpec.ofChange fnExactDropJumpWrong)

/-- 'laws.FnExactBestLadder': WHATEVER THE INPUT: true; the input reads as it did. -/
def fnExactBestLadderSpec : ChangeSpec := { name := "fnExactBestLadder", fn := fun _ => fun
  | [d] => { results := [.lit (.bool true)], args := [d] }
  | _ => none }
def fnExactBestLadderRow : OpenClaim := { program := "ytiekdokgjdgajaa", sum := "6de726af982f7def7af9c17bcf7b64a0c751595abad6f51ea60a3c5136166d98", func := "loop.example/g01306/laws.FnExactBestLadder", spec := "fnExactBestLadder", apart := false }
def FnExactBestLadderSaid : Prop := fnExactBestLadderRow.holds Try.pinned (OpenSpec.ofChange fnExactBestLadderSpec)

/-- ITS FALSE NEIGHBOUR: 'it returns false'. Refute it at one input. -/
def fnExactBestLadderWrong : ChangeSpec := { name := "fnExactBestLadder", fn := fun _ => fun
  | [d] => { results := [.lit (.bool false)], args := [d] }
  | _ => none }
def FnExactBestLadderWrongFalsely : Prop := fnExactBestLadderRow.holds Try.pinned (OpenSpec.ofChange fnExactBestLadderWrong)

/-- 'laws.FnExactFewestThrows': WHATEVER THE INPUT: true; the input reads as it did. -/
def fnExactFewestThrowsSpec : ChangeSpec := { name := "fnExactFewestThrows", fn := fun _ => fun
  | [d1, d2] => { results := [.lit (.bool true)], args := [d1, d2] }
  | _ => none }
def fnExactFewestThrowsRow : OpenClaim := { program := "ytiekdokgjdgajaa", sum := "6de726af982f7def7af9c17bcf7b64a0c751595abad6f51ea60a3c5136166d98", func := "loop.example/g01306/laws.FnExactFewestThrows", spec := "fnExactFewestThrows", apart := false }
def FnExactFewestThrowsSaid : Prop := fnExactFewestThrowsRow.holds Try.pinned (OpenSpec.ofChange fnExactFewestThrowsSpec)

/-- ITS FALSE NEIGHBOUR: 'it returns false'. Refute it at one input. -/
def fnExactFewestThrowsWrong : ChangeSpec := { name := "fnExactFewestThrows", fn := fun _ => fun
  | [d1, d2] => { results := [.lit (.bool false)], args := [d1, d2] }
  | _ => none }
def FnExactFewestThrowsWrongFalsely : Prop := fnExactFewestThrowsRow.holds Try.pinned (OpenSpec.ofChange fnExactFewestThrowsWrong)

/-- 'laws.FnExactFirstThrows': WHATEVER THE INPUT: true; the input reads as it did. -/
def fnExactFirstThrowsSpec : ChangeSpec := { name := "fnExactFirstThrows", fn := fun _ => fun
  | [d1, d2] => { results := [.lit (.bool true)], args := [d1, d2] }
  | _ => none }
def fnExactFirstThrowsRow : OpenClaim := { program := "ytiekdokgjdgajaa", sum := "6de726af982f7def7af9c17bcf7b64a0c751595abad6f51ea60a3c5136166d98", func := "loop.example/g01306/laws.FnExactFirstThrows", spec := "fnExactFirstThrows", apart := false }
def FnExactFirstThrowsSaid : Prop := fnExactFirstThrowsRow.holds Try.pinned (OpenSpec.ofChange fnExactFirstThrowsSpec)

/-- ITS FALSE NEIGHBOUR: 'it returns false'. Refute it at one input. -/
def fnExactFirstThrowsWrong : ChangeSpec := { name := "fnExactFirstThrows", fn := fun _ => fun
  | [d1, d2] => { results := [.lit (.bool false)], args := [d1, d2] }
  | _ => none }
def FnExactFirstThrowsWrongFalsely : Prop := fnExactFirstThrowsRow.holds Try.pinned (OpenSpec.ofChange fnExactFirstThrowsWrong)

/-- 'laws.FnExactCountFewest': WHATEVER THE INPUT: true; the input reads as it did. -/
def fnExactCountFewestSpec : ChangeSpec := { name := "fnExactCountFewest", fn := fun _ => fun
  | [d1, d2] => { results := [.lit (.bool true)], args := [d1, d2] }
  | _ => none }
def fnExactCountFewestRow : OpenClaim := { program := "ytiekdokgjdgajaa", sum := "6de726af982f7def7af9c17bcf7b64a0c751595abad6f51ea60a3c5136166d98", func := "loop.example/g01306/laws.FnExactCountFewest", spec := "fnExactCountFewest", apart := false }
def FnExactCountFewestSaid : Prop := fnExactCountFewestRow.holds Try.pinned (OpenSpec.ofChange fnExactCountFewestSpec)

/-- ITS FALSE NEIGHBOUR: 'it returns false'. Refute it at one input. -/
def fnExactCountFewestWrong : ChangeSpec := { name := "fnExactCountFewest", fn := fun _ => fun
  | [d1, d2] => { results := [.lit (.bool false)], args := [d1, d2] }
  | _ => none }
def FnExactCountFewestWrongFalsely : Prop := fnExactCountFewestRow.holds Try.pinned (OpenSpec.ofChange fnExactCountFewestWrong)

/-- 'laws.FnExactReachedFrom': WHATEVER THE INPUT: true; the input reads as it did. -/
def fnExactReachedFromSpec : ChangeSpec := { name := "fnExactReachedFrom", fn := fun _ => fun
  | [d1, d2] => { results := [.lit (.bool true)], args := [d1, d2] }
  | _ => none }
def fnExactReachedFromRow : OpenClaim := { program := "ytiekdokgjdgajaa", sum := "6de726af982f7def7af9c17bcf7b64a0c751595abad6f51ea60a3c5136166d98", func := "loop.example/g01306/laws.FnExactReachedFrom", spec := "fnExactReachedFrom", apart := false }
def FnExactReachedFromSaid : Prop := fnExactReachedFromRow.holds Try.pinned (OpenSpec.ofChange fnExactReachedFromSpec)

/-- ITS FALSE NEIGHBOUR: 'it returns false'. Refute it at one input. -/
def fnExactReachedFromWrong : ChangeSpec := { name := "fnExactReachedFrom", fn := fun _ => fun
  | [d1, d2] => { results := [.lit (.bool false)], args := [d1, d2] }
  | _ => none }
def FnExactReachedFromWrongFalsely : Prop := fnExactReachedFromRow.holds Try.pinned (OpenSpec.ofChange fnExactReachedFromWrong)

/-- 'laws.FnExactHopelessSquares': WHATEVER THE INPUT: true; the input reads as it did. -/
def fnExactHopelessSquaresSpec : ChangeSpec := { name := "fnExactHopelessSquares", fn := fun _ => fun
  | [d] => { results := [.lit (.bool true)], args := [d] }
  | _ => none }
def fnExactHopelessSquaresRow : OpenClaim := { program := "ytiekdokgjdgajaa", sum := "6de726af982f7def7af9c17bcf7b64a0c751595abad6f51ea60a3c5136166d98", func := "loop.example/g01306/laws.FnExactHopelessSquares", spec := "fnExactHopelessSquares", apart := false }
def FnExactHopelessSquaresSaid : Prop := fnExactHopelessSquaresRow.holds Try.pinned (OpenSpec.ofChange fnExactHopelessSquaresSpec)

/-- ITS FALSE NEIGHBOUR: 'it returns false'. Refute it at one input. -/
def fnExactHopelessSquaresWrong : ChangeSpec := { name := "fnExactHopelessSquares", fn := fun _ => fun
  | [d] => { results := [.lit (.bool false)], args := [d] }
  | _ => none }
def FnExactHopelessSquaresWrongFalsely : Prop := fnExactHopelessSquaresRow.holds Try.pinned (OpenSpec.ofChange fnExactHopelessSquaresWrong)

/-- 'laws.FnExactTurnJumps': WHATEVER THE INPUT: true; the input reads as it did. -/
def fnExactTurnJumpsSpec : ChangeSpec := { name := "fnExactTurnJumps", fn := fun _ => fun
  | [d] => { results := [.lit (.bool true)], args := [d] }
  | _ => none }
def fnExactTurnJumpsRow : OpenClaim := { program := "ytiekdokgjdgajaa", sum := "6de726af982f7def7af9c17bcf7b64a0c751595abad6f51ea60a3c5136166d98", func := "loop.example/g01306/laws.FnExactTurnJumps", spec := "fnExactTurnJumps", unfollowed := true, recurses := true, apart := false }
def FnExactTurnJumpsSaid : Prop := fnExactTurnJumpsRow.holds Try.pinned (OpenSpec.ofChange fnExactTurnJumpsSpec)

/-- ITS FALSE NEIGHBOUR: 'it returns false'. Refute it at one input. -/
def fnExactTurnJumpsWrong : ChangeSpec := { name := "fnExactTurnJumps", fn := fun _ => fun
  | [d] => { results := [.lit (.bool false)], args := [d] }
  | _ => none }
def FnExactTurnJumpsWrongFalsely : Prop := fnExactTurnJumpsRow.holds Try.pinned (OpenSpec.ofChange fnExactTurnJumpsWrong)

/- THE SECOND FORM. 'bulk': how many values and letters a reading holds, each counted each time it is reached (what is shared counts as often as it is met; a slice's spare places count too). A statement '..UptoSaid' is the law's where the arguments, and the package variables that the reading takes, are together of bulk at most 1048576: NARROWER than '..Said'. Prove '..Said' where nothing that the law and all that it calls make is longer than what came in: it says more and counts as full. Else prove '..UptoSaid'. A law counts once. -/
mutual
def uptoBulk {H : Type} : DataW H → Nat
  | .lit (.string bytes) => bytes.length + 1
  | .lit _ => 1
  | .nil => 1
  | .ptr d => uptoBulk d + 1
  | .slice elems spare => uptoBulkAll elems + uptoBulkAll spare + 1
  | .agg parts => uptoBulkAll parts + 1
  | .iface _ d => uptoBulk d + 1
  | .map entries => uptoBulkEntries entries + 1
  | .held _ => 1
def uptoBulkAll {H : Type} : List (DataW H) → Nat
  | [] => 0
  | d :: r => uptoBulk d + uptoBulkAll r
def uptoBulkEntries {H : Type} : List (Lit × DataW H) → Nat
  | [] => 0
  | x :: r => uptoBulkEntry x + uptoBulkEntries r
def uptoBulkEntry {H : Type} : Lit × DataW H → Nat
  | (.string bytes, d) => bytes.length + uptoBulk d + 1
  | (_, d) => uptoBulk d + 1
 end
def uptoSmall : (H : Type) → List (DataW H) → Bool := fun _ ds => decide (uptoBulkAll ds ≤ 1048576)
def OpenSpec.upto (s : _root_.Go.ChangeSpec) : _root_.Go.OpenSpec := { _root_.Go.OpenSpec.ofChange s with cond := some uptoSmall }

/-- 'laws.FnExactThrowTo', WHERE WHAT IT READS IS OF BULK AT MOST 1048576: true; the input reads as it did. -/
def fnExactThrowToUptoRow : OpenClaim := { program := "ytiekdokgjdgajaa", sum := "6de726af982f7def7af9c17bcf7b64a0c751595abad6f51ea60a3c5136166d98", func := "loop.example/g01306/laws.FnExactThrowTo", spec := "fnExactThrowTo", apart := false, narrowed := true }
def FnExactThrowToUptoSaid : Prop := fnExactThrowToUptoRow.holds Try.pinned (OpenSpec.upto fnExactThrowToSpec)

/-- 'laws.FnExactFacesTo', WHERE WHAT IT READS IS OF BULK AT MOST 1048576: true; the input reads as it did. -/
def fnExactFacesToUptoRow : OpenClaim := { program := "ytiekdokgjdgajaa", sum := "6de726af982f7def7af9c17bcf7b64a0c751595abad6f51ea60a3c5136166d98", func := "loop.example/g01306/laws.FnExactFacesTo", spec := "fnExactFacesTo", apart := false, narrowed := true }
def FnExactFacesToUptoSaid : Prop := fnExactFacesToUptoRow.holds Try.pinned (OpenSpec.upto fnExactFacesToSpec)

/-- 'laws.FnExactLandingsOf', WHERE WHAT IT READS IS OF BULK AT MOST 1048576: true; the input reads as it did. -/
def fnExactLandingsOfUptoRow : OpenClaim := { program := "ytiekdokgjdgajaa", sum := "6de726af982f7def7af9c17bcf7b64a0c751595abad6f51ea60a3c5136166d98", func := "loop.example/g01306/laws.FnExactLandingsOf", spec := "fnExactLandingsOf", apart := false, narrowed := true }
def FnExactLandingsOfUptoSaid : Prop := fnExactLandingsOfUptoRow.holds Try.pinned (OpenSpec.upto fnExactLandingsOfSpec)

/-- 'laws.FnExactPlayThrows', WHERE WHAT IT READS IS OF BULK AT MOST 1048576: true; the input reads as it did. -/
def fnExactPlayThrowsUptoRow : OpenClaim := { program := "ytiekdokgjdgajaa", sum := "6de726af982f7def7af9c17bcf7b64a0c751595abad6f51ea60a3c5136166d98", func := "loop.example/g01306/laws.FnExactPlayThrows", spec := "fnExactPlayThrows", apart := false, narrowed := true }
def FnExactPlayThrowsUptoSaid : Prop := fnExactPlayThrowsUptoRow.holds Try.pinned (OpenSpec.upto fnExactPlayThrowsSpec)

/-- 'laws.FnExactPathOfThrows', WHERE WHAT IT READS IS OF BULK AT MOST 1048576: true; the input reads as it did. -/
def fnExactPathOfThrowsUptoRow : OpenClaim := { program := "ytiekdokgjdgajaa", sum := "6de726af982f7def7af9c17bcf7b64a0c751595abad6f51ea60a3c5136166d98", func := "loop.example/g01306/laws.FnExactPathOfThrows", spec := "fnExactPathOfThrows", apart := false, narrowed := true }
def FnExactPathOfThrowsUptoSaid : Prop := fnExactPathOfThrowsUptoRow.holds Try.pinned (OpenSpec.upto fnExactPathOfThrowsSpec)

/-- 'laws.FnExactAddJump', WHERE WHAT IT READS IS OF BULK AT MOST 1048576: true; the input reads as it did. -/
def fnExactAddJumpUptoRow : OpenClaim := { program := "ytiekdokgjdgajaa", sum := "6de726af982f7def7af9c17bcf7b64a0c751595abad6f51ea60a3c5136166d98", func := "loop.example/g01306/laws.FnExactAddJump", spec := "fnExactAddJump", unfollowed := true, recurses := true, apart := false, narrowed := true }
def FnExactAddJumpUptoSaid : Prop := fnExactAddJumpUptoRow.holds Try.pinned (OpenSpec.upto fnExactAddJumpSpec)

/-- 'laws.FnExactDropJump', WHERE WHAT IT READS IS OF BULK AT MOST 1048576: true; the input reads as it did. -/
def fnExactDropJumpUptoRow : OpenClaim := { program := "ytiekdokgjdgajaa", sum := "6de726af982f7def7af9c17bcf7b64a0c751595abad6f51ea60a3c5136166d98", func := "loop.example/g01306/laws.FnExactDropJump", spec := "fnExactDropJump", unfollowed := true, recurses := true, apart := false, narrowed := true }
def FnExactDropJumpUptoSaid : Prop := fnExactDropJumpUptoRow.holds Try.pinned (OpenSpec.upto fnExactDropJumpSpec)

/-- 'laws.FnExactBestLadder', WHERE WHAT IT READS IS OF BULK AT MOST 1048576: true; the input reads as it did. -/
def fnExactBestLadderUptoRow : OpenClaim := { program := "ytiekdokgjdgajaa", sum := "6de726af982f7def7af9c17bcf7b64a0c751595abad6f51ea60a3c5136166d98", func := "loop.example/g01306/laws.FnExactBestLadder", spec := "fnExactBestLadder", apart := false, narrowed := true }
def FnExactBestLadderUptoSaid : Prop := fnExactBestLadderUptoRow.holds Try.pinned (OpenSpec.upto fnExactBestLadderSpec)

/-- 'laws.FnExactFewestThrows', WHERE WHAT IT READS IS OF BULK AT MOST 1048576: true; the input reads as it did. -/
def fnExactFewestThrowsUptoRow : OpenClaim := { program := "ytiekdokgjdgajaa", sum := "6de726af982f7def7af9c17bcf7b64a0c751595abad6f51ea60a3c5136166d98", func := "loop.example/g01306/laws.FnExactFewestThrows", spec := "fnExactFewestThrows", apart := false, narrowed := true }
def FnExactFewestThrowsUptoSaid : Prop := fnExactFewestThrowsUptoRow.holds Try.pinned (OpenSpec.upto fnExactFewestThrowsSpec)

/-- 'laws.FnExactFirstThrows', WHERE WHAT IT READS IS OF BULK AT MOST 1048576: true; the input reads as it did. -/
def fnExactFirstThrowsUptoRow : OpenClaim := { program := "ytiekdokgjdgajaa", sum := "6de726af982f7def7af9c17bcf7b64a0c751595abad6f51ea60a3c5136166d98", func := "loop.example/g01306/laws.FnExactFirstThrows", spec := "fnExactFirstThrows", apart := false, narrowed := true }
def FnExactFirstThrowsUptoSaid : Prop := fnExactFirstThrowsUptoRow.holds Try.pinned (OpenSpec.upto fnExactFirstThrowsSpec)

/-- 'laws.FnExactCountFewest', WHERE WHAT IT READS IS OF BULK AT MOST 1048576: true; the input reads as it did. -/
def fnExactCountFewestUptoRow : OpenClaim := { program := "ytiekdokgjdgajaa", sum := "6de726af982f7def7af9c17bcf7b64a0c751595abad6f51ea60a3c5136166d98", func := "loop.example/g01306/laws.FnExactCountFewest", spec := "fnExactCountFewest", apart := false, narrowed := true }
def FnExactCountFewestUptoSaid : Prop := fnExactCountFewestUptoRow.holds Try.pinned (OpenSpec.upto fnExactCountFewestSpec)

/-- 'laws.FnExactReachedFrom', WHERE WHAT IT READS IS OF BULK AT MOST 1048576: true; the input reads as it did. -/
def fnExactReachedFromUptoRow : OpenClaim := { program := "ytiekdokgjdgajaa", sum := "6de726af982f7def7af9c17bcf7b64a0c751595abad6f51ea60a3c5136166d98", func := "loop.example/g01306/laws.FnExactReachedFrom", spec := "fnExactReachedFrom", apart := false, narrowed := true }
def FnExactReachedFromUptoSaid : Prop := fnExactReachedFromUptoRow.holds Try.pinned (OpenSpec.upto fnExactReachedFromSpec)

/-- 'laws.FnExactHopelessSquares', WHERE WHAT IT READS IS OF BULK AT MOST 1048576: true; the input reads as it did. -/
def fnExactHopelessSquaresUptoRow : OpenClaim := { program := "ytiekdokgjdgajaa", sum := "6de726af982f7def7af9c17bcf7b64a0c751595abad6f51ea60a3c5136166d98", func := "loop.example/g01306/laws.FnExactHopelessSquares", spec := "fnExactHopelessSquares", apart := false, narrowed := true }
def FnExactHopelessSquaresUptoSaid : Prop := fnExactHopelessSquaresUptoRow.holds Try.pinned (OpenSpec.upto fnExactHopelessSquaresSpec)

/-- 'laws.FnExactTurnJumps', WHERE WHAT IT READS IS OF BULK AT MOST 1048576: true; the input reads as it did. -/
def fnExactTurnJumpsUptoRow : OpenClaim := { program := "ytiekdokgjdgajaa", sum := "6de726af982f7def7af9c17bcf7b64a0c751595abad6f51ea60a3c5136166d98", func := "loop.example/g01306/laws.FnExactTurnJumps", spec := "fnExactTurnJumps", unfollowed := true, recurses := true, apart := false, narrowed := true }
def FnExactTurnJumpsUptoSaid : Prop := fnExactTurnJumpsUptoRow.holds Try.pinned (OpenSpec.upto fnExactTurnJumpsSpec)

end Rows
end Go.Proofs.Ytiekdokgjdgajaa
