/-
  No cell of these rows narrows 'for every input' (looked for: loops, veiled, ifaces, maps, wideKeys, modest, calm, conditions, laid).
  DERIVED. THE GIVEN ROWS OF THIS SEAT. 6 by the template 'for every input the law returns true; each argument reads behind the call as it read before'; 0 by the template 'total and deterministic' (their statements: YtbblmbibddjedaaTotals.lean).
  GIVEN WITH THE SEED: the statements are not yours to turn. If you find one false, say at which input.
  Laid BY PROGRAM, IN A SANDBOX (cutbox-rows.mjs): the forced cells as the released guide's own fill.sh prints them over the translation faa79fd892e41de1… (all of the seat's roots in one cut). By AI agents, Wed Nov 11 2026. No macro, syntax, notation, axiom, sorry.
-/
import Derived.Test.YtbblmbibddjedaaChecked
import GoSem.Claim
import GoSem.ClaimJoined
import GoSem.ClaimMapViews
import Derived.JoinedTies
import Derived.KernelRfl
namespace Go.Proofs.Ytbblmbibddjedaa
/- THE CELL 'sum', in the pinned program and in every row, IS THE sha256 OF THE DUMP (.gsa) THAT YtbblmbibddjedaaProg.lean LOADS. Nothing in Lean hashes anything: it is a label: what it is worth is what the hold of that sum in a sandbox is worth. -/
noncomputable def Try.pinned : Pinned := { name := "ytbblmbibddjedaa", sum := "faa79fd892e41de1d85d221f88e3792a18525ac180896a9dba9d109d97b979d3", checked := Try.checked }
namespace Rows
def none {H : Type} : Left H := { results := [], args := [] }

/-- 'laws.FnExactIsRace': WHATEVER THE INPUT: true; the input reads as it did. -/
def fnExactIsRaceSpec : ChangeSpec := { name := "fnExactIsRace", fn := fun _ => fun
  | [d] => { results := [.lit (.bool true)], args := [d] }
  | _ => none }
def fnExactIsRaceRow : OpenClaim := { program := "ytbblmbibddjedaa", sum := "faa79fd892e41de1d85d221f88e3792a18525ac180896a9dba9d109d97b979d3", func := "loop.example/g01306/laws.FnExactIsRace", spec := "fnExactIsRace", apart := false }
def FnExactIsRaceSaid : Prop := fnExactIsRaceRow.holds Try.pinned (OpenSpec.ofChange fnExactIsRaceSpec)

/-- ITS FALSE NEIGHBOUR: 'it returns false'. Refute it at one input. -/
def fnExactIsRaceWrong : ChangeSpec := { name := "fnExactIsRace", fn := fun _ => fun
  | [d] => { results := [.lit (.bool false)], args := [d] }
  | _ => none }
def FnExactIsRaceWrongFalsely : Prop := fnExactIsRaceRow.holds Try.pinned (OpenSpec.ofChange fnExactIsRaceWrong)

/-- 'laws.FnExactOtherRace': WHATEVER THE INPUT: true; the input reads as it did. -/
def fnExactOtherRaceSpec : ChangeSpec := { name := "fnExactOtherRace", fn := fun _ => fun
  | [d] => { results := [.lit (.bool true)], args := [d] }
  | _ => none }
def fnExactOtherRaceRow : OpenClaim := { program := "ytbblmbibddjedaa", sum := "faa79fd892e41de1d85d221f88e3792a18525ac180896a9dba9d109d97b979d3", func := "loop.example/g01306/laws.FnExactOtherRace", spec := "fnExactOtherRace", apart := false }
def FnExactOtherRaceSaid : Prop := fnExactOtherRaceRow.holds Try.pinned (OpenSpec.ofChange fnExactOtherRaceSpec)

/-- ITS FALSE NEIGHBOUR: 'it returns false'. Refute it at one input. -/
def fnExactOtherRaceWrong : ChangeSpec := { name := "fnExactOtherRace", fn := fun _ => fun
  | [d] => { results := [.lit (.bool false)], args := [d] }
  | _ => none }
def FnExactOtherRaceWrongFalsely : Prop := fnExactOtherRaceRow.holds Try.pinned (OpenSpec.ofChange fnExactOtherRaceWrong)

/-- 'laws.FnExactCanWin': WHATEVER THE INPUT: true; the input reads as it did. -/
def fnExactCanWinSpec : ChangeSpec := { name := "fnExactCanWin", fn := fun _ => fun
  | [d1, d2] => { results := [.lit (.bool true)], args := [d1, d2] }
  | _ => none }
def fnExactCanWinRow : OpenClaim := { program := "ytbblmbibddjedaa", sum := "faa79fd892e41de1d85d221f88e3792a18525ac180896a9dba9d109d97b979d3", func := "loop.example/g01306/laws.FnExactCanWin", spec := "fnExactCanWin", unfollowed := true, recurses := true, apart := false }
def FnExactCanWinSaid : Prop := fnExactCanWinRow.holds Try.pinned (OpenSpec.ofChange fnExactCanWinSpec)

/-- ITS FALSE NEIGHBOUR: 'it returns false'. Refute it at one input. -/
def fnExactCanWinWrong : ChangeSpec := { name := "fnExactCanWin", fn := fun _ => fun
  | [d1, d2] => { results := [.lit (.bool false)], args := [d1, d2] }
  | _ => none }
def FnExactCanWinWrongFalsely : Prop := fnExactCanWinRow.holds Try.pinned (OpenSpec.ofChange fnExactCanWinWrong)

/-- 'laws.FnExactCountRaced': WHATEVER THE INPUT: true; the input reads as it did. -/
def fnExactCountRacedSpec : ChangeSpec := { name := "fnExactCountRaced", fn := fun _ => fun
  | [d] => { results := [.lit (.bool true)], args := [d] }
  | _ => none }
def fnExactCountRacedRow : OpenClaim := { program := "ytbblmbibddjedaa", sum := "faa79fd892e41de1d85d221f88e3792a18525ac180896a9dba9d109d97b979d3", func := "loop.example/g01306/laws.FnExactCountRaced", spec := "fnExactCountRaced", apart := false }
def FnExactCountRacedSaid : Prop := fnExactCountRacedRow.holds Try.pinned (OpenSpec.ofChange fnExactCountRacedSpec)

/-- ITS FALSE NEIGHBOUR: 'it returns false'. Refute it at one input. -/
def fnExactCountRacedWrong : ChangeSpec := { name := "fnExactCountRaced", fn := fun _ => fun
  | [d] => { results := [.lit (.bool false)], args := [d] }
  | _ => none }
def FnExactCountRacedWrongFalsely : Prop := fnExactCountRacedRow.holds Try.pinned (OpenSpec.ofChange fnExactCountRacedWrong)

/-- 'laws.FnExactShortestWin': WHATEVER THE INPUT: true; the input reads as it did. -/
def fnExactShortestWinSpec : ChangeSpec := { name := "fnExactShortestWin", fn := fun _ => fun
  | [d1, d2] => { results := [.lit (.bool true)], args := [d1, d2] }
  | _ => none }
def fnExactShortestWinRow : OpenClaim := { program := "ytbblmbibddjedaa", sum := "faa79fd892e41de1d85d221f88e3792a18525ac180896a9dba9d109d97b979d3", func := "loop.example/g01306/laws.FnExactShortestWin", spec := "fnExactShortestWin", unfollowed := true, recurses := true, apart := false }
def FnExactShortestWinSaid : Prop := fnExactShortestWinRow.holds Try.pinned (OpenSpec.ofChange fnExactShortestWinSpec)

/-- ITS FALSE NEIGHBOUR: 'it returns false'. Refute it at one input. -/
def fnExactShortestWinWrong : ChangeSpec := { name := "fnExactShortestWin", fn := fun _ => fun
  | [d1, d2] => { results := [.lit (.bool false)], args := [d1, d2] }
  | _ => none }
def FnExactShortestWinWrongFalsely : Prop := fnExactShortestWinRow.holds Try.pinned (OpenSpec.ofChange fnExactShortestWinWrong)

/-- 'laws.FnExactFirstWin': WHATEVER THE INPUT: true; the input reads as it did. -/
def fnExactFirstWinSpec : ChangeSpec := { name := "fnExactFirstWin", fn := fun _ => fun
  | [d1, d2] => { results := [.lit (.bool true)], args := [d1, d2] }
  | _ => none }
def fnExactFirstWinRow : OpenClaim := { program := "ytbblmbibddjedaa", sum := "faa79fd892e41de1d85d221f88e3792a18525ac180896a9dba9d109d97b979d3", func := "loop.example/g01306/laws.FnExactFirstWin", spec := "fnExactFirstWin", unfollowed := true, recurses := true, apart := false }
def FnExactFirstWinSaid : Prop := fnExactFirstWinRow.holds Try.pinned (OpenSpec.ofChange fnExactFirstWinSpec)

/-- ITS FALSE NEIGHBOUR: 'it returns false'. Refute it at one input. -/
def fnExactFirstWinWrong : ChangeSpec := { name := "fnExactFirstWin", fn := fun _ => fun
  | [d1, d2] => { results := [.lit (.bool false)], args := [d1, d2] }
  | _ => none }
def FnExactFirstWinWrongFalsely : Prop := fnExactFirstWinRow.holds Try.pinned (OpenSpec.ofChange fnExactFirstWinWrong)

/- THE SECOND FORM. 'bulk': how many values and letters a reading holds, each counted each time it is reached (what is shared counts as often as it is met; a slice's spare places count too). A statement '..UptoSaid' is the law's where the arguments, and the package variables that the reading takes, are together of bulk at most 1048576: NARROWER than '..Said'. Prove '..Said' where nothing that the law and all that it calls make is longer than what came in: it says more and counts as full. Else prove '..UptoSaid'. A law counts once. -/
mutual
def uptoBulk {H : Type} : DataW H → Nat
  | .lit (.string bytes) => bytes.length + 1
  | .lit _ => 1
  | .nil => 1
  | .ptr d => uptoBulk d + 1
  | .slice elems spare => uptoBulkAll elems + uptoBulkAll spare + 1
  | .agg parts => uptoBulkAll parts + 1
  | .iface _ d => uptoBulk d + 1
  | .map entries => uptoBulkEntries entries + 1
  | .held _ => 1
def uptoBulkAll {H : Type} : List (DataW H) → Nat
  | [] => 0
  | d :: r => uptoBulk d + uptoBulkAll r
def uptoBulkEntries {H : Type} : List (Lit × DataW H) → Nat
  | [] => 0
  | x :: r => uptoBulkEntry x + uptoBulkEntries r
def uptoBulkEntry {H : Type} : Lit × DataW H → Nat
  | (.string bytes, d) => bytes.length + uptoBulk d + 1
  | (_, d) => uptoBulk d + 1
 end
def uptoSmall : (H : Type) → List (DataW H) → Bool := fun _ ds => decide (uptoBulkAll ds ≤ 1048576)
def OpenSpec.upto (s : _root_.Go.ChangeSpec) : _root_.Go.OpenSpec := { _root_.Go.OpenSpec.ofChange s with cond := some uptoSmall }

/-- 'laws.FnExactIsRace', WHERE WHAT IT READS IS OF BULK AT MOST 1048576: true; the input reads as it did. -/
def fnExactIsRaceUptoRow : OpenClaim := { program := "ytbblmbibddjedaa", sum := "faa79fd892e41de1d85d221f88e3792a18525ac180896a9dba9d109d97b979d3", func := "loop.example/g01306/laws.FnExactIsRace", spec := "fnExactIsRace", apart := false, narrowed := true }
def FnExactIsRaceUptoSaid : Prop := fnExactIsRaceUptoRow.holds Try.pinned (OpenSpec.upto fnExactIsRaceSpec)

/-- 'laws.FnExactOtherRace', WHERE WHAT IT READS IS OF BULK AT MOST 1048576: true; the input reads as it did. -/
def fnExactOtherRaceUptoRow : OpenClaim := { program := "ytbblmbibddjedaa", sum := "faa79fd892e41de1d85d221f88e3792a18525ac180896a9dba9d109d97b979d3", func := "loop.example/g01306/laws.FnExactOtherRace", spec := "fnExactOtherRace", apart := false, narrowed := true }
def FnExactOtherRaceUptoSaid : Prop := fnExactOtherRaceUptoRow.holds Try.pinned (OpenSpec.upto fnExactOtherRaceSpec)

/-- 'laws.FnExactCanWin', WHERE WHAT IT READS IS OF BULK AT MOST 1048576: true; the input reads as it did. -/
def fnExactCanWinUptoRow : OpenClaim := { program := "ytbblmbibddjedaa", sum := "faa79fd892e41de1d85d221f88e3792a18525ac180896a9dba9d109d97b979d3", func := "loop.example/g01306/laws.FnExactCanWin", spec := "fnExactCanWin", unfollowed := true, recurses := true, apart := false, narrowed := true }
def FnExactCanWinUptoSaid : Prop := fnExactCanWinUptoRow.holds Try.pinned (OpenSpec.upto fnExactCanWinSpec)

/-- 'laws.FnExactCountRaced', WHERE WHAT IT READS IS OF BULK AT MOST 1048576: true; the input reads as it did. -/
def fnExactCountRacedUptoRow : OpenClaim := { program := "ytbblmbibddjedaa", sum := "faa79fd892e41de1d85d221f88e3792a18525ac180896a9dba9d109d97b979d3", func := "loop.example/g01306/laws.FnExactCountRaced", spec := "fnExactCountRaced", apart := false, narrowed := true }
def FnExactCountRacedUptoSaid : Prop := fnExactCountRacedUptoRow.holds Try.pinned (OpenSpec.upto fnExactCountRacedSpec)

/-- 'laws.FnExactShortestWin', WHERE WHAT IT READS IS OF BULK AT MOST 1048576: true; the input reads as it did. -/
def fnExactShortestWinUptoRow : OpenClaim := { program := "ytbblmbibddjedaa", sum := "faa79fd892e41de1d85d221f88e3792a18525ac180896a9dba9d109d97b979d3", func := "loop.example/g01306/laws.FnExactShortestWin", spec := "fnExactShortestWin", unfollowed := true, recurses := true, apart := false, narrowed := true }
def FnExactShortestWinUptoSaid : Prop := fnExactShortestWinUptoRow.holds Try.pinned (OpenSpec.upto fnExactShortestWinSpec)

/-- 'laws.FnExactFirstWin', WHERE WHAT IT READS IS OF BULK AT MOST 1048576: true; the input reads as it did. -/
def fnExactFirstWinUptoRow : OpenClaim := { program := "ytbblmbibddjedaa", sum := "faa79fd892e41de1d85d221f88e3792a18525ac180896a9dba9d109d97b979d3", func := "loop.example/g01306/laws.FnExactFirstWin", spec := "fnExactFirstWin", unfollowed := true, recurses := true, apart := false, narrowed := true }
def FnExactFirstWinUptoSaid : Prop := fnExactFirstWinUptoRow.holds Try.pinned (OpenSpec.upto fnExactFirstWinSpec)

end Rows
end Go.Proofs.Ytbblmbibddjedaa
