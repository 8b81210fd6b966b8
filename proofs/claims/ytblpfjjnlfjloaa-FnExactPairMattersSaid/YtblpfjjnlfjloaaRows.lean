/-
  No cell of these rows narrows 'for every input' (looked for: loops, veiled, ifaces, maps, wideKeys, modest, calm, conditions, laid).
  DERIVED. THE GIVEN ROWS OF THIS SEAT. 9 by the template 'for every input the law returns true; each argument reads behind the call as it read before'; 0 by the template 'total and deterministic' (their statements: YtblpfjjnlfjloaaTotals.lean).
  GIVEN WITH THE SEED: the statements are not yours to turn. If you find one false, say at which input.
  Laid BY PROGRAM, IN A SANDBOX (cutbox-rows.mjs): the forced cells as the released guide's own fill.sh prints them over the translation e25dd593f2fec0b2… (all of the seat's roots in one cut). By AI agents, Wed Nov 11 2026. No macro, syntax, notation, axiom, sorry.
-/
import Derived.Test.YtblpfjjnlfjloaaChecked
import GoSem.Claim
import GoSem.ClaimJoined
import GoSem.ClaimMapViews
import Derived.JoinedTies
import Derived.KernelRfl
namespace Go.Proofs.Ytblpfjjnlfjloaa
/- THE CELL 'sum', in the pinned program and in every row, IS THE sha256 OF THE DUMP (.gsa) THAT YtblpfjjnlfjloaaProg.lean LOADS. Nothing in Lean hashes anything: it is a label: what it is worth is what the hold of that sum in a sandbox is worth. -/
noncomputable def Try.pinned : Pinned := { name := "ytblpfjjnlfjloaa", sum := "e25dd593f2fec0b214be038cb9d5e68bc2d7e4eb141351f44d4124c2be0e8cb9", checked := Try.checked }
namespace Rows
def none {H : Type} : Left H := { results := [], args := [] }

/-- 'laws.FnExactPairMean': WHATEVER THE INPUT: true; the input reads as it did. -/
def fnExactPairMeanSpec : ChangeSpec := { name := "fnExactPairMean", fn := fun _ => fun
  | [d1, d2, d3, d4] => { results := [.lit (.bool true)], args := [d1, d2, d3, d4] }
  | _ => none }
def fnExactPairMeanRow : OpenClaim := { program := "ytblpfjjnlfjloaa", sum := "e25dd593f2fec0b214be038cb9d5e68bc2d7e4eb141351f44d4124c2be0e8cb9", func := "loop.example/g01306/laws.FnExactPairMean", spec := "fnExactPairMean", inPlace := ["math.Float64bits", "math.Float64frombits"], unfollowed := true, recurses := true, apart := false }
def FnExactPairMeanSaid : Prop := fnExactPairMeanRow.holds Try.pinned (OpenSpec.ofChange fnExactPairMeanSpec)

/-- ITS FALSE NEIGHBOUR: 'it returns false'. Refute it at one input. -/
def fnExactPairMeanWrong : ChangeSpec := { name := "fnExactPairMean", fn := fun _ => fun
  | [d1, d2, d3, d4] => { results := [.lit (.bool false)], args := [d1, d2, d3, d4] }
  | _ => none }
def FnExactPairMeanWrongFalsely : Prop := fnExactPairMeanRow.holds Try.pinned (OpenSpec.ofChange fnExactPairMeanWrong)

/-- 'laws.FnExactPairChoice': WHATEVER THE INPUT: true; the input reads as it did. -/
def fnExactPairChoiceSpec : ChangeSpec := { name := "fnExactPairChoice", fn := fun _ => fun
  | [d1, d2, d3, d4, d5] => { results := [.lit (.bool true)], args := [d1, d2, d3, d4, d5] }
  | _ => none }
def fnExactPairChoiceRow : OpenClaim := { program := "ytblpfjjnlfjloaa", sum := "e25dd593f2fec0b214be038cb9d5e68bc2d7e4eb141351f44d4124c2be0e8cb9", func := "loop.example/g01306/laws.FnExactPairChoice", spec := "fnExactPairChoice", inPlace := ["math.Float64bits", "math.Float64frombits"], unfollowed := true, recurses := true, apart := false }
def FnExactPairChoiceSaid : Prop := fnExactPairChoiceRow.holds Try.pinned (OpenSpec.ofChange fnExactPairChoiceSpec)

/-- ITS FALSE NEIGHBOUR: 'it returns false'. Refute it at one input. -/
def fnExactPairChoiceWrong : ChangeSpec := { name := "fnExactPairChoice", fn := fun _ => fun
  | [d1, d2, d3, d4, d5] => { results := [.lit (.bool false)], args := [d1, d2, d3, d4, d5] }
  | _ => none }
def FnExactPairChoiceWrongFalsely : Prop := fnExactPairChoiceRow.holds Try.pinned (OpenSpec.ofChange fnExactPairChoiceWrong)

/-- 'laws.FnExactPairByRule': WHATEVER THE INPUT: true; the input reads as it did. -/
def fnExactPairByRuleSpec : ChangeSpec := { name := "fnExactPairByRule", fn := fun _ => fun
  | [d1, d2, d3, d4, d5] => { results := [.lit (.bool true)], args := [d1, d2, d3, d4, d5] }
  | _ => none }
def fnExactPairByRuleRow : OpenClaim := { program := "ytblpfjjnlfjloaa", sum := "e25dd593f2fec0b214be038cb9d5e68bc2d7e4eb141351f44d4124c2be0e8cb9", func := "loop.example/g01306/laws.FnExactPairByRule", spec := "fnExactPairByRule", unfollowed := true, recurses := true, apart := false }
def FnExactPairByRuleSaid : Prop := fnExactPairByRuleRow.holds Try.pinned (OpenSpec.ofChange fnExactPairByRuleSpec)

/-- ITS FALSE NEIGHBOUR: 'it returns false'. Refute it at one input. -/
def fnExactPairByRuleWrong : ChangeSpec := { name := "fnExactPairByRule", fn := fun _ => fun
  | [d1, d2, d3, d4, d5] => { results := [.lit (.bool false)], args := [d1, d2, d3, d4, d5] }
  | _ => none }
def FnExactPairByRuleWrongFalsely : Prop := fnExactPairByRuleRow.holds Try.pinned (OpenSpec.ofChange fnExactPairByRuleWrong)

/-- 'laws.FnExactPairGreatest': WHATEVER THE INPUT: true; the input reads as it did. -/
def fnExactPairGreatestSpec : ChangeSpec := { name := "fnExactPairGreatest", fn := fun _ => fun
  | [d1, d2, d3, d4] => { results := [.lit (.bool true)], args := [d1, d2, d3, d4] }
  | _ => none }
def fnExactPairGreatestRow : OpenClaim := { program := "ytblpfjjnlfjloaa", sum := "e25dd593f2fec0b214be038cb9d5e68bc2d7e4eb141351f44d4124c2be0e8cb9", func := "loop.example/g01306/laws.FnExactPairGreatest", spec := "fnExactPairGreatest", inPlace := ["math.Float64bits", "math.Float64frombits"], unfollowed := true, recurses := true, apart := false }
def FnExactPairGreatestSaid : Prop := fnExactPairGreatestRow.holds Try.pinned (OpenSpec.ofChange fnExactPairGreatestSpec)

/-- ITS FALSE NEIGHBOUR: 'it returns false'. Refute it at one input. -/
def fnExactPairGreatestWrong : ChangeSpec := { name := "fnExactPairGreatest", fn := fun _ => fun
  | [d1, d2, d3, d4] => { results := [.lit (.bool false)], args := [d1, d2, d3, d4] }
  | _ => none }
def FnExactPairGreatestWrongFalsely : Prop := fnExactPairGreatestRow.holds Try.pinned (OpenSpec.ofChange fnExactPairGreatestWrong)

/-- 'laws.FnExactPlayPair': WHATEVER THE INPUT: true; the input reads as it did. -/
def fnExactPlayPairSpec : ChangeSpec := { name := "fnExactPlayPair", fn := fun _ => fun
  | [d1, d2, d3, d4, d5] => { results := [.lit (.bool true)], args := [d1, d2, d3, d4, d5] }
  | _ => none }
def fnExactPlayPairRow : OpenClaim := { program := "ytblpfjjnlfjloaa", sum := "e25dd593f2fec0b214be038cb9d5e68bc2d7e4eb141351f44d4124c2be0e8cb9", func := "loop.example/g01306/laws.FnExactPlayPair", spec := "fnExactPlayPair", inPlace := ["math.Float64bits", "math.Float64frombits"], unfollowed := true, recurses := true, apart := false }
def FnExactPlayPairSaid : Prop := fnExactPlayPairRow.holds Try.pinned (OpenSpec.ofChange fnExactPlayPairSpec)

/-- ITS FALSE NEIGHBOUR: 'it returns false'. Refute it at one input. -/
def fnExactPlayPairWrong : ChangeSpec := { name := "fnExactPlayPair", fn := fun _ => fun
  | [d1, d2, d3, d4, d5] => { results := [.lit (.bool false)], args := [d1, d2, d3, d4, d5] }
  | _ => none }
def FnExactPlayPairWrongFalsely : Prop := fnExactPlayPairRow.holds Try.pinned (OpenSpec.ofChange fnExactPlayPairWrong)

/-- 'laws.FnExactPairThrowsUsed': WHATEVER THE INPUT: true; the input reads as it did. -/
def fnExactPairThrowsUsedSpec : ChangeSpec := { name := "fnExactPairThrowsUsed", fn := fun _ => fun
  | [d1, d2, d3, d4, d5] => { results := [.lit (.bool true)], args := [d1, d2, d3, d4, d5] }
  | _ => none }
def fnExactPairThrowsUsedRow : OpenClaim := { program := "ytblpfjjnlfjloaa", sum := "e25dd593f2fec0b214be038cb9d5e68bc2d7e4eb141351f44d4124c2be0e8cb9", func := "loop.example/g01306/laws.FnExactPairThrowsUsed", spec := "fnExactPairThrowsUsed", inPlace := ["math.Float64bits", "math.Float64frombits"], unfollowed := true, recurses := true, apart := false }
def FnExactPairThrowsUsedSaid : Prop := fnExactPairThrowsUsedRow.holds Try.pinned (OpenSpec.ofChange fnExactPairThrowsUsedSpec)

/-- ITS FALSE NEIGHBOUR: 'it returns false'. Refute it at one input. -/
def fnExactPairThrowsUsedWrong : ChangeSpec := { name := "fnExactPairThrowsUsed", fn := fun _ => fun
  | [d1, d2, d3, d4, d5] => { results := [.lit (.bool false)], args := [d1, d2, d3, d4, d5] }
  | _ => none }
def FnExactPairThrowsUsedWrongFalsely : Prop := fnExactPairThrowsUsedRow.holds Try.pinned (OpenSpec.ofChange fnExactPairThrowsUsedWrong)

/-- 'laws.FnExactPairMatters': WHATEVER THE INPUT: true; the input reads as it did. -/
def fnExactPairMattersSpec : ChangeSpec := { name := "fnExactPairMatters", fn := fun _ => fun
  | [d1, d2, d3, d4] => { results := [.lit (.bool true)], args := [d1, d2, d3, d4] }
  | _ => none }
def fnExactPairMattersRow : OpenClaim := { program := "ytblpfjjnlfjloaa", sum := "e25dd593f2fec0b214be038cb9d5e68bc2d7e4eb141351f44d4124c2be0e8cb9", func := "loop.example/g01306/laws.FnExactPairMatters", spec := "fnExactPairMatters", inPlace := ["math.Float64bits", "math.Float64frombits"], unfollowed := true, recurses := true, apart := false }
def FnExactPairMattersSaid : Prop := fnExactPairMattersRow.holds Try.pinned (OpenSpec.ofChange fnExactPairMattersSpec)

/-- ITS FALSE NEIGHBOUR: 'it returns false'. Refute it at one input. -/
def fnExactPairMattersWrong : ChangeSpec := { name := "fnExactPairMatters", fn := fun _ => fun
  | [d1, d2, d3, d4] => { results := [.lit (.bool false)], args := [d1, d2, d3, d4] }
  | _ => none }
def FnExactPairMattersWrongFalsely : Prop := fnExactPairMattersRow.holds Try.pinned (OpenSpec.ofChange fnExactPairMattersWrong)

/-- 'laws.FnExactPairCountFewest': WHATEVER THE INPUT: true; the input reads as it did. -/
def fnExactPairCountFewestSpec : ChangeSpec := { name := "fnExactPairCountFewest", fn := fun _ => fun
  | [d1, d2, d3, d4] => { results := [.lit (.bool true)], args := [d1, d2, d3, d4] }
  | _ => none }
def fnExactPairCountFewestRow : OpenClaim := { program := "ytblpfjjnlfjloaa", sum := "e25dd593f2fec0b214be038cb9d5e68bc2d7e4eb141351f44d4124c2be0e8cb9", func := "loop.example/g01306/laws.FnExactPairCountFewest", spec := "fnExactPairCountFewest", unfollowed := true, recurses := true, apart := false }
def FnExactPairCountFewestSaid : Prop := fnExactPairCountFewestRow.holds Try.pinned (OpenSpec.ofChange fnExactPairCountFewestSpec)

/-- ITS FALSE NEIGHBOUR: 'it returns false'. Refute it at one input. -/
def fnExactPairCountFewestWrong : ChangeSpec := { name := "fnExactPairCountFewest", fn := fun _ => fun
  | [d1, d2, d3, d4] => { results := [.lit (.bool false)], args := [d1, d2, d3, d4] }
  | _ => none }
def FnExactPairCountFewestWrongFalsely : Prop := fnExactPairCountFewestRow.holds Try.pinned (OpenSpec.ofChange fnExactPairCountFewestWrong)

/-- 'laws.FnExactPairFirstThrows': WHATEVER THE INPUT: true; the input reads as it did. -/
def fnExactPairFirstThrowsSpec : ChangeSpec := { name := "fnExactPairFirstThrows", fn := fun _ => fun
  | [d1, d2, d3, d4] => { results := [.lit (.bool true)], args := [d1, d2, d3, d4] }
  | _ => none }
def fnExactPairFirstThrowsRow : OpenClaim := { program := "ytblpfjjnlfjloaa", sum := "e25dd593f2fec0b214be038cb9d5e68bc2d7e4eb141351f44d4124c2be0e8cb9", func := "loop.example/g01306/laws.FnExactPairFirstThrows", spec := "fnExactPairFirstThrows", unfollowed := true, recurses := true, apart := false }
def FnExactPairFirstThrowsSaid : Prop := fnExactPairFirstThrowsRow.holds Try.pinned (OpenSpec.ofChange fnExactPairFirstThrowsSpec)

/-- ITS FALSE NEIGHBOUR: 'it returns false'. Refute it at one input. -/
def fnExactPairFirstThrowsWrong : ChangeSpec := { name := "fnExactPairFirstThrows", fn := fun _ => fun
  | [d1, d2, d3, d4] => { results := [.lit (.bool false)], args := [d1, d2, d3, d4] }
  | _ => none }
def FnExactPairFirstThrowsWrongFalsely : Prop := fnExactPairFirstThrowsRow.holds Try.pinned (OpenSpec.ofChange fnExactPairFirstThrowsWrong)

/- THE SECOND FORM. 'bulk': how many values and letters a reading holds, each counted each time it is reached (what is shared counts as often as it is met; a slice's spare places count too). A statement '..UptoSaid' is the law's where the arguments, and the package variables that the reading takes, are together of bulk at most 1048576: NARROWER than '..Said'. Prove '..Said' where nothing that the law and all that it calls make is longer than what came in: it says more and counts as full. Else prove '..UptoSaid'. A law counts once. -/
mutual
def uptoBulk {H : Type} : DataW H → Nat
  | .lit (.string bytes) => bytes.length + 1
  | .lit _ => 1
  | .nil => 1
  | .ptr d => uptoBulk d + 1
  | .slice elems spare => uptoBulkAll elems + uptoBulkAll spare + 1
  | .agg parts => uptoBulkAll parts + 1
  | .iface _ d => uptoBulk d + 1
  | .map entries => uptoBulkEntries entries + 1
  | .held _ => 1
def uptoBulkAll {H : Type} : List (DataW H) → Nat
  | [] => 0
  | d :: r => uptoBulk d + uptoBulkAll r
def uptoBulkEntries {H : Type} : List (Lit × DataW H) → Nat
  | [] => 0
  | x :: r => uptoBulkEntry x + uptoBulkEntries r
def uptoBulkEntry {H : Type} : Lit × DataW H → Nat
  | (.string bytes, d) => bytes.length + uptoBulk d + 1
  | (_, d) => uptoBulk d + 1
 end
def uptoSmall : (H : Type) → List (DataW H) → Bool := fun _ ds => decide (uptoBulkAll ds ≤ 1048576)
def OpenSpec.upto (s : _root_.Go.ChangeSpec) : _root_.Go.OpenSpec := { _root_.Go.OpenSpec.ofChange s with cond := some uptoSmall }

/-- 'laws.FnExactPairMean', WHERE WHAT IT READS IS OF BULK AT MOST 1048576: true; the input reads as it did. -/
def fnExactPairMeanUptoRow : OpenClaim := { program := "ytblpfjjnlfjloaa", sum := "e25dd593f2fec0b214be038cb9d5e68bc2d7e4eb141351f44d4124c2be0e8cb9", func := "loop.example/g01306/laws.FnExactPairMean", spec := "fnExactPairMean", inPlace := ["math.Float64bits", "math.Float64frombits"], unfollowed := true, recurses := true, apart := false, narrowed := true }
def FnExactPairMeanUptoSaid : Prop := fnExactPairMeanUptoRow.holds Try.pinned (OpenSpec.upto fnExactPairMeanSpec)

/-- 'laws.FnExactPairChoice', WHERE WHAT IT READS IS OF BULK AT MOST 1048576: true; the input reads as it did. -/
def fnExactPairChoiceUptoRow : OpenClaim := { program := "ytblpfjjnlfjloaa", sum := "e25dd593f2fec0b214be038cb9d5e68bc2d7e4eb141351f44d4124c2be0e8cb9", func := "loop.example/g01306/laws.FnExactPairChoice", spec := "fnExactPairChoice", inPlace := ["math.Float64bits", "math.Float64frombits"], unfollowed := true, recurses := true, apart := false, narrowed := true }
def FnExactPairChoiceUptoSaid : Prop := fnExactPairChoiceUptoRow.holds Try.pinned (OpenSpec.upto fnExactPairChoiceSpec)

/-- 'laws.FnExactPairByRule', WHERE WHAT IT READS IS OF BULK AT MOST 1048576: true; the input reads as it did. -/
def fnExactPairByRuleUptoRow : OpenClaim := { program := "ytblpfjjnlfjloaa", sum := "e25dd593f2fec0b214be038cb9d5e68bc2d7e4eb141351f44d4124c2be0e8cb9", func := "loop.example/g01306/laws.FnExactPairByRule", spec := "fnExactPairByRule", unfollowed := true, recurses := true, apart := false, narrowed := true }
def FnExactPairByRuleUptoSaid : Prop := fnExactPairByRuleUptoRow.holds Try.pinned (OpenSpec.upto fnExactPairByRuleSpec)

/-- 'laws.FnExactPairGreatest', WHERE WHAT IT READS IS OF BULK AT MOST 1048576: true; the input reads as it did. -/
def fnExactPairGreatestUptoRow : OpenClaim := { program := "ytblpfjjnlfjloaa", sum := "e25dd593f2fec0b214be038cb9d5e68bc2d7e4eb141351f44d4124c2be0e8cb9", func := "loop.example/g01306/laws.FnExactPairGreatest", spec := "fnExactPairGreatest", inPlace := ["math.Float64bits", "math.Float64frombits"], unfollowed := true, recurses := true, apart := false, narrowed := true }
def FnExactPairGreatestUptoSaid : Prop := fnExactPairGreatestUptoRow.holds Try.pinned (OpenSpec.upto fnExactPairGreatestSpec)

/-- 'laws.FnExactPlayPair', WHERE WHAT IT READS IS OF BULK AT MOST 1048576: true; the input reads as it did. -/
def fnExactPlayPairUptoRow : OpenClaim := { program := "ytblpfjjnlfjloaa", sum := "e25dd593f2fec0b214be038cb9d5e68bc2d7e4eb141351f44d4124c2be0e8cb9", func := "loop.example/g01306/laws.FnExactPlayPair", spec := "fnExactPlayPair", inPlace := ["math.Float64bits", "math.Float64frombits"], unfollowed := true, recurses := true, apart := false, narrowed := true }
def FnExactPlayPairUptoSaid : Prop := fnExactPlayPairUptoRow.holds Try.pinned (OpenSpec.upto fnExactPlayPairSpec)

/-- 'laws.FnExactPairThrowsUsed', WHERE WHAT IT READS IS OF BULK AT MOST 1048576: true; the input reads as it did. -/
def fnExactPairThrowsUsedUptoRow : OpenClaim := { program := "ytblpfjjnlfjloaa", sum := "e25dd593f2fec0b214be038cb9d5e68bc2d7e4eb141351f44d4124c2be0e8cb9", func := "loop.example/g01306/laws.FnExactPairThrowsUsed", spec := "fnExactPairThrowsUsed", inPlace := ["math.Float64bits", "math.Float64frombits"], unfollowed := true, recurses := true, apart := false, narrowed := true }
def FnExactPairThrowsUsedUptoSaid : Prop := fnExactPairThrowsUsedUptoRow.holds Try.pinned (OpenSpec.upto fnExactPairThrowsUsedSpec)

/-- 'laws.FnExactPairMatters', WHERE WHAT IT READS IS OF BULK AT MOST 1048576: true; the input reads as it did. -/
def fnExactPairMattersUptoRow : OpenClaim := { program := "ytblpfjjnlfjloaa", sum := "e25dd593f2fec0b214be038cb9d5e68bc2d7e4eb141351f44d4124c2be0e8cb9", func := "loop.example/g01306/laws.FnExactPairMatters", spec := "fnExactPairMatters", inPlace := ["math.Float64bits", "math.Float64frombits"], unfollowed := true, recurses := true, apart := false, narrowed := true }
def FnExactPairMattersUptoSaid : Prop := fnExactPairMattersUptoRow.holds Try.pinned (OpenSpec.upto fnExactPairMattersSpec)

/-- 'laws.FnExactPairCountFewest', WHERE WHAT IT READS IS OF BULK AT MOST 1048576: true; the input reads as it did. -/
def fnExactPairCountFewestUptoRow : OpenClaim := { program := "ytblpfjjnlfjloaa", sum := "e25dd593f2fec0b214be038cb9d5e68bc2d7e4eb141351f44d4124c2be0e8cb9", func := "loop.example/g01306/laws.FnExactPairCountFewest", spec := "fnExactPairCountFewest", unfollowed := true, recurses := true, apart := false, narrowed := true }
def FnExactPairCountFewestUptoSaid : Prop := fnExactPairCountFewestUptoRow.holds Try.pinned (OpenSpec.upto fnExactPairCountFewestSpec)

/-- 'laws.FnExactPairFirstThrows', WHERE WHAT IT READS IS OF BULK AT MOST 1048576: true; the input reads as it did. -/
def fnExactPairFirstThrowsUptoRow : OpenClaim := { program := "ytblpfjjnlfjloaa", sum := "e25dd593f2fec0b214be038cb9d5e68bc2d7e4eb141351f44d4124c2be0e8cb9", func := "loop.example/g01306/laws.FnExactPairFirstThrows", spec := "fnExactPairFirstThrows", unfollowed := true, recurses := true, apart := false, narrowed := true }
def FnExactPairFirstThrowsUptoSaid : Prop := fnExactPairFirstThrowsUptoRow.holds Try.pinned (OpenSpec.upto fnExactPairFirstThrowsSpec)

end Rows
end Go.Proofs.Ytblpfjjnlfjloaa
