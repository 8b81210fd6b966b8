/-
  No cell of these rows narrows 'for every input' (looked for: loops, veiled, ifaces, maps, wideKeys, modest, calm, conditions, laid).
  DERIVED. THE GIVEN ROWS OF THIS SEAT. 4 by the template 'for every input the law returns true; each argument reads behind the call as it read before'; 0 by the template 'total and deterministic' (their statements: YtmiefdjbhcpnbaaTotals.lean).
  GIVEN WITH THE SEED: the statements are not yours to turn. If you find one false, say at which input.
  Laid BY PROGRAM, IN A SANDBOX (cutbox-rows.mjs): the forced cells as the released guide's own fill.sh prints them over the translation 62e551d3ee059e3c… (all of the seat's roots in one cut). By AI agents, Wed Nov 11 2026. No macro, syntax, notation, axiom, sorry.
-/
import Derived.Test.YtmiefdjbhcpnbaaChecked
import GoSem.Claim
import GoSem.ClaimJoined
import GoSem.ClaimMapViews
import Derived.JoinedTies
import Derived.KernelRfl
namespace Go.Proofs.Ytmiefdjbhcpnbaa
/- THE CELL 'sum', in the pinned program and in every row, IS THE sha256 OF THE DUMP (.gsa) THAT YtmiefdjbhcpnbaaProg.lean LOADS. Nothing in Lean hashes anything: it is a label: what it is worth is what the hold of that sum in a sandbox is worth. -/
noncomputable def Try.pinned : Pinned := { name := "ytmiefdjbhcpnbaa", sum := "62e551d3ee059e3c318cddc2ca9278d63a86deb5a0ee16724686ccfee6ec675b", checked := Try.checked }
namespace Rows
def none {H : Type} : Left H := { results := [], args := [] }

/-- 'laws.FnExactPairCountFewest': WHATEVER THE INPUT: true; the input reads as it did. -/
def fnExactPairCountFewestSpec : ChangeSpec := { name := "fnExactPairCountFewest", fn := fun _ => fun
  | [d1, d2, d3, d4] => { results := [.lit (.bool true)], args := [d1, d2, d3, d4] }
  | _ => none }
def fnExactPairCountFewestRow : OpenClaim := { program := "ytmiefdjbhcpnbaa", sum := "62e551d3ee059e3c318cddc2ca9278d63a86deb5a0ee16724686ccfee6ec675b", func := "loop.example/g01306/laws.FnExactPairCountFewest", spec := "fnExactPairCountFewest", unfollowed := true, recurses := true, apart := false }
def FnExactPairCountFewestSaid : Prop := fnExactPairCountFewestRow.holds Try.pinned (OpenSpec.ofChange fnExactPairCountFewestSpec)

/-- ITS FALSE NEIGHBOUR: 'it returns false'. Refute it at one input. -/
def fnExactPairCountFewestWrong : ChangeSpec := { name := "fnExactPairCountFewest", fn := fun _ => fun
  | [d1, d2, d3, d4] => { results := [.lit (.bool false)], args := [d1, d2, d3, d4] }
  | _ => none }
def FnExactPairCountFewestWrongFalsely : Prop := fnExactPairCountFewestRow.holds Try.pinned (OpenSpec.ofChange fnExactPairCountFewestWrong)

/-- 'laws.FnExactPlayPair': WHATEVER THE INPUT: true; the input reads as it did. -/
def fnExactPlayPairSpec : ChangeSpec := { name := "fnExactPlayPair", fn := fun _ => fun
  | [d1, d2, d3, d4, d5] => { results := [.lit (.bool true)], args := [d1, d2, d3, d4, d5] }
  | _ => none }
def fnExactPlayPairRow : OpenClaim := { program := "ytmiefdjbhcpnbaa", sum := "62e551d3ee059e3c318cddc2ca9278d63a86deb5a0ee16724686ccfee6ec675b", func := "loop.example/g01306/laws.FnExactPlayPair", spec := "fnExactPlayPair", inPlace := ["math.Float64bits", "math.Float64frombits"], unfollowed := true, recurses := true, apart := false }
def FnExactPlayPairSaid : Prop := fnExactPlayPairRow.holds Try.pinned (OpenSpec.ofChange fnExactPlayPairSpec)

/-- ITS FALSE NEIGHBOUR: 'it returns false'. Refute it at one input. -/
def fnExactPlayPairWrong : ChangeSpec := { name := "fnExactPlayPair", fn := fun _ => fun
  | [d1, d2, d3, d4, d5] => { results := [.lit (.bool false)], args := [d1, d2, d3, d4, d5] }
  | _ => none }
def FnExactPlayPairWrongFalsely : Prop := fnExactPlayPairRow.holds Try.pinned (OpenSpec.ofChange fnExactPlayPairWrong)

/-- 'laws.FnExactPairThrowsUsed': WHATEVER THE INPUT: true; the input reads as it did. -/
def fnExactPairThrowsUsedSpec : ChangeSpec := { name := "fnExactPairThrowsUsed", fn := fun _ => fun
  | [d1, d2, d3, d4, d5] => { results := [.lit (.bool true)], args := [d1, d2, d3, d4, d5] }
  | _ => none }
def fnExactPairThrowsUsedRow : OpenClaim := { program := "ytmiefdjbhcpnbaa", sum := "62e551d3ee059e3c318cddc2ca9278d63a86deb5a0ee16724686ccfee6ec675b", func := "loop.example/g01306/laws.FnExactPairThrowsUsed", spec := "fnExactPairThrowsUsed", inPlace := ["math.Float64bits", "math.Float64frombits"], unfollowed := true, recurses := true, apart := false }
def FnExactPairThrowsUsedSaid : Prop := fnExactPairThrowsUsedRow.holds Try.pinned (OpenSpec.ofChange fnExactPairThrowsUsedSpec)

/-- ITS FALSE NEIGHBOUR: 'it returns false'. Refute it at one input. -/
def fnExactPairThrowsUsedWrong : ChangeSpec := { name := "fnExactPairThrowsUsed", fn := fun _ => fun
  | [d1, d2, d3, d4, d5] => { results := [.lit (.bool false)], args := [d1, d2, d3, d4, d5] }
  | _ => none }
def FnExactPairThrowsUsedWrongFalsely : Prop := fnExactPairThrowsUsedRow.holds Try.pinned (OpenSpec.ofChange fnExactPairThrowsUsedWrong)

/-- 'laws.FnExactPairFirstThrows': WHATEVER THE INPUT: true; the input reads as it did. -/
def fnExactPairFirstThrowsSpec : ChangeSpec := { name := "fnExactPairFirstThrows", fn := fun _ => fun
  | [d1, d2, d3, d4] => { results := [.lit (.bool true)], args := [d1, d2, d3, d4] }
  | _ => none }
def fnExactPairFirstThrowsRow : OpenClaim := { program := "ytmiefdjbhcpnbaa", sum := "62e551d3ee059e3c318cddc2ca9278d63a86deb5a0ee16724686ccfee6ec675b", func := "loop.example/g01306/laws.FnExactPairFirstThrows", spec := "fnExactPairFirstThrows", unfollowed := true, recurses := true, apart := false }
def FnExactPairFirstThrowsSaid : Prop := fnExactPairFirstThrowsRow.holds Try.pinned (OpenSpec.ofChange fnExactPairFirstThrowsSpec)

/-- ITS FALSE NEIGHBOUR: 'it returns false'. Refute it at one input. -/
def fnExactPairFirstThrowsWrong : ChangeSpec := { name := "fnExactPairFirstThrows", fn := fun _ => fun
  | [d1, d2, d3, d4] => { results := [.lit (.bool false)], args := [d1, d2, d3, d4] }
  | _ => none }
def FnExactPairFirstThrowsWrongFalsely : Prop := fnExactPairFirstThrowsRow.holds Try.pinned (OpenSpec.ofChange fnExactPairFirstThrowsWrong)

/- THE SECOND FORM. 'bulk': how many values and letters a reading holds, each counted each time it is reached (what is shared counts as often as it is met; a slice's spare places count too). A statement '..UptoSaid' is the law's where the arguments, and the package variables that the reading takes, are together of bulk at most 1048576: NARROWER than '..Said'. Prove '..Said' where nothing that the law and all that it calls make is longer than what came in: it says more and counts as full. Else prove '..UptoSaid'. A law counts once. -/
mutual
def uptoBulk {H : Type} : DataW H → Nat
  | .lit (.string bytes) => bytes.length + 1
  | .lit _ => 1
  | .nil => 1
  | .ptr d => uptoBulk d + 1
  | .slice elems spare => uptoBulkAll elems + uptoBulkAll spare + 1
  | .agg parts => uptoBulkAll parts + 1
  | .iface _ d => uptoBulk d + 1
  | .map entries => uptoBulkEntries entries + 1
  | .held _ => 1
def uptoBulkAll {H : Type} : List (DataW H) → Nat
  | [] => 0
  | d :: r => uptoBulk d + uptoBulkAll r
def uptoBulkEntries {H : Type} : List (Lit × DataW H) → Nat
  | [] => 0
  | x :: r => uptoBulkEntry x + uptoBulkEntries r
def uptoBulkEntry {H : Type} : Lit × DataW H → Nat
  | (.string bytes, d) => bytes.length + uptoBulk d + 1
  | (_, d) => uptoBulk d + 1
 end
def uptoSmall : (H : Type) → List (DataW H) → Bool := fun _ ds => decide (uptoBulkAll ds ≤ 1048576)
def OpenSpec.upto (s : _root_.Go.ChangeSpec) : _root_.Go.OpenSpec := { _root_.Go.OpenSpec.ofChange s with cond := some uptoSmall }

/-- 'laws.FnExactPairCountFewest', WHERE WHAT IT READS IS OF BULK AT MOST 1048576: true; the input reads as it did. -/
def fnExactPairCountFewestUptoRow : OpenClaim := { program := "ytmiefdjbhcpnbaa", sum := "62e551d3ee059e3c318cddc2ca9278d63a86deb5a0ee16724686ccfee6ec675b", func := "loop.example/g01306/laws.FnExactPairCountFewest", spec := "fnExactPairCountFewest", unfollowed := true, recurses := true, apart := false, narrowed := true }
def FnExactPairCountFewestUptoSaid : Prop := fnExactPairCountFewestUptoRow.holds Try.pinned (OpenSpec.upto fnExactPairCountFewestSpec)

/-- 'laws.FnExactPlayPair', WHERE WHAT IT READS IS OF BULK AT MOST 1048576: true; the input reads as it did. -/
def fnExactPlayPairUptoRow : OpenClaim := { program := "ytmiefdjbhcpnbaa", sum := "62e551d3ee059e3c318cddc2ca9278d63a86deb5a0ee16724686ccfee6ec675b", func := "loop.example/g01306/laws.FnExactPlayPair", spec := "fnExactPlayPair", inPlace := ["math.Float64bits", "math.Float64frombits"], unfollowed := true, recurses := true, apart := false, narrowed := true }
def FnExactPlayPairUptoSaid : Prop := fnExactPlayPairUptoRow.holds Try.pinned (OpenSpec.upto fnExactPlayPairSpec)

/-- 'laws.FnExactPairThrowsUsed', WHERE WHAT IT READS IS OF BULK AT MOST 1048576: true; the input reads as it did. -/
def fnExactPairThrowsUsedUptoRow : OpenClaim := { program := "ytmiefdjbhcpnbaa", sum := "62e551d3ee059e3c318cddc2ca9278d63a86deb5a0ee16724686ccfee6ec675b", func := "loop.example/g01306/laws.FnExactPairThrowsUsed", spec := "fnExactPairThrowsUsed", inPlace := ["math.Float64bits", "math.Float64frombits"], unfollowed := true, recurses := true, apart := false, narrowed := true }
def FnExactPairThrowsUsedUptoSaid : Prop := fnExactPairThrowsUsedUptoRow.holds Try.pinned (OpenSpec.upto fnExactPairThrowsUsedSpec)

/-- 'laws.FnExactPairFirstThrows', WHERE WHAT IT READS IS OF BULK AT MOST 1048576: true; the input reads as it did. -/
def fnExactPairFirstThrowsUptoRow : OpenClaim := { program := "ytmiefdjbhcpnbaa", sum := "62e551d3ee059e3c318cddc2ca9278d63a86deb5a0ee16724686ccfee6ec675b", func := "loop.example/g01306/laws.FnExactPairFirstThrows", spec := "fnExactPairFirstThrows", unfollowed := true, recurses := true, apart := false, narrowed := true }
def FnExactPairFirstThrowsUptoSaid : Prop := fnExactPairFirstThrowsUptoRow.holds Try.pinned (OpenSpec.upto fnExactPairFirstThrowsSpec)

end Rows
end Go.Proofs.Ytmiefdjbhcpnbaa
