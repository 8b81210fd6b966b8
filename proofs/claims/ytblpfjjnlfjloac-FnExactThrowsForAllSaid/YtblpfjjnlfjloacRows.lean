/-
  No cell of these rows narrows 'for every input' (looked for: loops, veiled, ifaces, maps, wideKeys, modest, calm, conditions, laid).
  DERIVED. THE GIVEN ROWS OF THIS SEAT. 6 by the template 'for every input the law returns true; each argument reads behind the call as it read before'; 0 by the template 'total and deterministic' (their statements: YtblpfjjnlfjloacTotals.lean).
  GIVEN WITH THE SEED: the statements are not yours to turn. If you find one false, say at which input.
  Laid BY PROGRAM, IN A SANDBOX (cutbox-rows.mjs): the forced cells as the released guide's own fill.sh prints them over the translation 0a5cb99fa2bafd13… (all of the seat's roots in one cut). By AI agents, Wed Nov 11 2026. No macro, syntax, notation, axiom, sorry.
-/
import Derived.Test.YtblpfjjnlfjloacChecked
import GoSem.Claim
import GoSem.ClaimJoined
import GoSem.ClaimMapViews
import Derived.JoinedTies
import Derived.KernelRfl
namespace Go.Proofs.Ytblpfjjnlfjloac
/- THE CELL 'sum', in the pinned program and in every row, IS THE sha256 OF THE DUMP (.gsa) THAT YtblpfjjnlfjloacProg.lean LOADS. Nothing in Lean hashes anything: it is a label: what it is worth is what the hold of that sum in a sandbox is worth. -/
noncomputable def Try.pinned : Pinned := { name := "ytblpfjjnlfjloac", sum := "0a5cb99fa2bafd138e405cd1026992821cbb912134c7694fbc451c4ae69d86a5", checked := Try.checked }
namespace Rows
def none {H : Type} : Left H := { results := [], args := [] }

/-- 'laws.FnExactCountSome': WHATEVER THE INPUT: true; the input reads as it did. -/
def fnExactCountSomeSpec : ChangeSpec := { name := "fnExactCountSome", fn := fun _ => fun
  | [d1, d2, d3] => { results := [.lit (.bool true)], args := [d1, d2, d3] }
  | _ => none }
def fnExactCountSomeRow : OpenClaim := { program := "ytblpfjjnlfjloac", sum := "0a5cb99fa2bafd138e405cd1026992821cbb912134c7694fbc451c4ae69d86a5", func := "loop.example/g01306/laws.FnExactCountSome", spec := "fnExactCountSome", unfollowed := true, recurses := true, apart := false }
def FnExactCountSomeSaid : Prop := fnExactCountSomeRow.holds Try.pinned (OpenSpec.ofChange fnExactCountSomeSpec)

/-- ITS FALSE NEIGHBOUR: 'it returns false'. Refute it at one input. -/
def fnExactCountSomeWrong : ChangeSpec := { name := "fnExactCountSome", fn := fun _ => fun
  | [d1, d2, d3] => { results := [.lit (.bool false)], args := [d1, d2, d3] }
  | _ => none }
def FnExactCountSomeWrongFalsely : Prop := fnExactCountSomeRow.holds Try.pinned (OpenSpec.ofChange fnExactCountSomeWrong)

/-- 'laws.FnExactCountEachFace': WHATEVER THE INPUT: true; the input reads as it did. -/
def fnExactCountEachFaceSpec : ChangeSpec := { name := "fnExactCountEachFace", fn := fun _ => fun
  | [d1, d2] => { results := [.lit (.bool true)], args := [d1, d2] }
  | _ => none }
def fnExactCountEachFaceRow : OpenClaim := { program := "ytblpfjjnlfjloac", sum := "0a5cb99fa2bafd138e405cd1026992821cbb912134c7694fbc451c4ae69d86a5", func := "loop.example/g01306/laws.FnExactCountEachFace", spec := "fnExactCountEachFace", unfollowed := true, recurses := true, apart := false }
def FnExactCountEachFaceSaid : Prop := fnExactCountEachFaceRow.holds Try.pinned (OpenSpec.ofChange fnExactCountEachFaceSpec)

/-- ITS FALSE NEIGHBOUR: 'it returns false'. Refute it at one input. -/
def fnExactCountEachFaceWrong : ChangeSpec := { name := "fnExactCountEachFace", fn := fun _ => fun
  | [d1, d2] => { results := [.lit (.bool false)], args := [d1, d2] }
  | _ => none }
def FnExactCountEachFaceWrongFalsely : Prop := fnExactCountEachFaceRow.holds Try.pinned (OpenSpec.ofChange fnExactCountEachFaceWrong)

/-- 'laws.FnExactThrowsForAll': WHATEVER THE INPUT: true; the input reads as it did. -/
def fnExactThrowsForAllSpec : ChangeSpec := { name := "fnExactThrowsForAll", fn := fun _ => fun
  | [d] => { results := [.lit (.bool true)], args := [d] }
  | _ => none }
def fnExactThrowsForAllRow : OpenClaim := { program := "ytblpfjjnlfjloac", sum := "0a5cb99fa2bafd138e405cd1026992821cbb912134c7694fbc451c4ae69d86a5", func := "loop.example/g01306/laws.FnExactThrowsForAll", spec := "fnExactThrowsForAll", apart := false }
def FnExactThrowsForAllSaid : Prop := fnExactThrowsForAllRow.holds Try.pinned (OpenSpec.ofChange fnExactThrowsForAllSpec)

/-- ITS FALSE NEIGHBOUR: 'it returns false'. Refute it at one input. -/
def fnExactThrowsForAllWrong : ChangeSpec := { name := "fnExactThrowsForAll", fn := fun _ => fun
  | [d] => { results := [.lit (.bool false)], args := [d] }
  | _ => none }
def FnExactThrowsForAllWrongFalsely : Prop := fnExactThrowsForAllRow.holds Try.pinned (OpenSpec.ofChange fnExactThrowsForAllWrong)

/-- 'laws.FnExactCountSame': WHATEVER THE INPUT: true; the input reads as it did. -/
def fnExactCountSameSpec : ChangeSpec := { name := "fnExactCountSame", fn := fun _ => fun
  | [d1, d2, d3] => { results := [.lit (.bool true)], args := [d1, d2, d3] }
  | _ => none }
def fnExactCountSameRow : OpenClaim := { program := "ytblpfjjnlfjloac", sum := "0a5cb99fa2bafd138e405cd1026992821cbb912134c7694fbc451c4ae69d86a5", func := "loop.example/g01306/laws.FnExactCountSame", spec := "fnExactCountSame", unfollowed := true, recurses := true, apart := false }
def FnExactCountSameSaid : Prop := fnExactCountSameRow.holds Try.pinned (OpenSpec.ofChange fnExactCountSameSpec)

/-- ITS FALSE NEIGHBOUR: 'it returns false'. Refute it at one input. -/
def fnExactCountSameWrong : ChangeSpec := { name := "fnExactCountSame", fn := fun _ => fun
  | [d1, d2, d3] => { results := [.lit (.bool false)], args := [d1, d2, d3] }
  | _ => none }
def FnExactCountSameWrongFalsely : Prop := fnExactCountSameRow.holds Try.pinned (OpenSpec.ofChange fnExactCountSameWrong)

/-- 'laws.FnExactCountRuns': WHATEVER THE INPUT: true; the input reads as it did. -/
def fnExactCountRunsSpec : ChangeSpec := { name := "fnExactCountRuns", fn := fun _ => fun
  | [d1, d2, d3] => { results := [.lit (.bool true)], args := [d1, d2, d3] }
  | _ => none }
def fnExactCountRunsRow : OpenClaim := { program := "ytblpfjjnlfjloac", sum := "0a5cb99fa2bafd138e405cd1026992821cbb912134c7694fbc451c4ae69d86a5", func := "loop.example/g01306/laws.FnExactCountRuns", spec := "fnExactCountRuns", unfollowed := true, recurses := true, apart := false }
def FnExactCountRunsSaid : Prop := fnExactCountRunsRow.holds Try.pinned (OpenSpec.ofChange fnExactCountRunsSpec)

/-- ITS FALSE NEIGHBOUR: 'it returns false'. Refute it at one input. -/
def fnExactCountRunsWrong : ChangeSpec := { name := "fnExactCountRuns", fn := fun _ => fun
  | [d1, d2, d3] => { results := [.lit (.bool false)], args := [d1, d2, d3] }
  | _ => none }
def FnExactCountRunsWrongFalsely : Prop := fnExactCountRunsRow.holds Try.pinned (OpenSpec.ofChange fnExactCountRunsWrong)

/-- 'laws.FnExactCountGreatest': WHATEVER THE INPUT: true; the input reads as it did. -/
def fnExactCountGreatestSpec : ChangeSpec := { name := "fnExactCountGreatest", fn := fun _ => fun
  | [d1, d2, d3] => { results := [.lit (.bool true)], args := [d1, d2, d3] }
  | _ => none }
def fnExactCountGreatestRow : OpenClaim := { program := "ytblpfjjnlfjloac", sum := "0a5cb99fa2bafd138e405cd1026992821cbb912134c7694fbc451c4ae69d86a5", func := "loop.example/g01306/laws.FnExactCountGreatest", spec := "fnExactCountGreatest", unfollowed := true, recurses := true, apart := false }
def FnExactCountGreatestSaid : Prop := fnExactCountGreatestRow.holds Try.pinned (OpenSpec.ofChange fnExactCountGreatestSpec)

/-- ITS FALSE NEIGHBOUR: 'it returns false'. Refute it at one input. -/
def fnExactCountGreatestWrong : ChangeSpec := { name := "fnExactCountGreatest", fn := fun _ => fun
  | [d1, d2, d3] => { results := [.lit (.bool false)], args := [d1, d2, d3] }
  | _ => none }
def FnExactCountGreatestWrongFalsely : Prop := fnExactCountGreatestRow.holds Try.pinned (OpenSpec.ofChange fnExactCountGreatestWrong)

/- THE SECOND FORM. 'bulk': how many values and letters a reading holds, each counted each time it is reached (what is shared counts as often as it is met; a slice's spare places count too). A statement '..UptoSaid' is the law's where the arguments, and the package variables that the reading takes, are together of bulk at most 1048576: NARROWER than '..Said'. Prove '..Said' where nothing that the law and all that it calls make is longer than what came in: it says more and counts as full. Else prove '..UptoSaid'. A law counts once. -/
mutual
def uptoBulk {H : Type} : DataW H → Nat
  | .lit (.string bytes) => bytes.length + 1
  | .lit _ => 1
  | .nil => 1
  | .ptr d => uptoBulk d + 1
  | .slice elems spare => uptoBulkAll elems + uptoBulkAll spare + 1
  | .agg parts => uptoBulkAll parts + 1
  | .iface _ d => uptoBulk d + 1
  | .map entries => uptoBulkEntries entries + 1
  | .held _ => 1
def uptoBulkAll {H : Type} : List (DataW H) → Nat
  | [] => 0
  | d :: r => uptoBulk d + uptoBulkAll r
def uptoBulkEntries {H : Type} : List (Lit × DataW H) → Nat
  | [] => 0
  | x :: r => uptoBulkEntry x + uptoBulkEntries r
def uptoBulkEntry {H : Type} : Lit × DataW H → Nat
  | (.string bytes, d) => bytes.length + uptoBulk d + 1
  | (_, d) => uptoBulk d + 1
 end
def uptoSmall : (H : Type) → List (DataW H) → Bool := fun _ ds => decide (uptoBulkAll ds ≤ 1048576)
def OpenSpec.upto (s : _root_.Go.ChangeSpec) : _root_.Go.OpenSpec := { _root_.Go.OpenSpec.ofChange s with cond := some uptoSmall }

/-- 'laws.FnExactCountSome', WHERE WHAT IT READS IS OF BULK AT MOST 1048576: true; the input reads as it did. -/
def fnExactCountSomeUptoRow : OpenClaim := { program := "ytblpfjjnlfjloac", sum := "0a5cb99fa2bafd138e405cd1026992821cbb912134c7694fbc451c4ae69d86a5", func := "loop.example/g01306/laws.FnExactCountSome", spec := "fnExactCountSome", unfollowed := true, recurses := true, apart := false, narrowed := true }
def FnExactCountSomeUptoSaid : Prop := fnExactCountSomeUptoRow.holds Try.pinned (OpenSpec.upto fnExactCountSomeSpec)

/-- 'laws.FnExactCountEachFace', WHERE WHAT IT READS IS OF BULK AT MOST 1048576: true; the input reads as it did. -/
def fnExactCountEachFaceUptoRow : OpenClaim := { program := "ytblpfjjnlfjloac", sum := "0a5cb99fa2bafd138e405cd1026992821cbb912134c7694fbc451c4ae69d86a5", func := "loop.example/g01306/laws.FnExactCountEachFace", spec := "fnExactCountEachFace", unfollowed := true, recurses := true, apart := false, narrowed := true }
def FnExactCountEachFaceUptoSaid : Prop := fnExactCountEachFaceUptoRow.holds Try.pinned (OpenSpec.upto fnExactCountEachFaceSpec)

/-- 'laws.FnExactThrowsForAll', WHERE WHAT IT READS IS OF BULK AT MOST 1048576: true; the input reads as it did. -/
def fnExactThrowsForAllUptoRow : OpenClaim := { program := "ytblpfjjnlfjloac", sum := "0a5cb99fa2bafd138e405cd1026992821cbb912134c7694fbc451c4ae69d86a5", func := "loop.example/g01306/laws.FnExactThrowsForAll", spec := "fnExactThrowsForAll", apart := false, narrowed := true }
def FnExactThrowsForAllUptoSaid : Prop := fnExactThrowsForAllUptoRow.holds Try.pinned (OpenSpec.upto fnExactThrowsForAllSpec)

/-- 'laws.FnExactCountSame', WHERE WHAT IT READS IS OF BULK AT MOST 1048576: true; the input reads as it did. -/
def fnExactCountSameUptoRow : OpenClaim := { program := "ytblpfjjnlfjloac", sum := "0a5cb99fa2bafd138e405cd1026992821cbb912134c7694fbc451c4ae69d86a5", func := "loop.example/g01306/laws.FnExactCountSame", spec := "fnExactCountSame", unfollowed := true, recurses := true, apart := false, narrowed := true }
def FnExactCountSameUptoSaid : Prop := fnExactCountSameUptoRow.holds Try.pinned (OpenSpec.upto fnExactCountSameSpec)

/-- 'laws.FnExactCountRuns', WHERE WHAT IT READS IS OF BULK AT MOST 1048576: true; the input reads as it did. -/
def fnExactCountRunsUptoRow : OpenClaim := { program := "ytblpfjjnlfjloac", sum := "0a5cb99fa2bafd138e405cd1026992821cbb912134c7694fbc451c4ae69d86a5", func := "loop.example/g01306/laws.FnExactCountRuns", spec := "fnExactCountRuns", unfollowed := true, recurses := true, apart := false, narrowed := true }
def FnExactCountRunsUptoSaid : Prop := fnExactCountRunsUptoRow.holds Try.pinned (OpenSpec.upto fnExactCountRunsSpec)

/-- 'laws.FnExactCountGreatest', WHERE WHAT IT READS IS OF BULK AT MOST 1048576: true; the input reads as it did. -/
def fnExactCountGreatestUptoRow : OpenClaim := { program := "ytblpfjjnlfjloac", sum := "0a5cb99fa2bafd138e405cd1026992821cbb912134c7694fbc451c4ae69d86a5", func := "loop.example/g01306/laws.FnExactCountGreatest", spec := "fnExactCountGreatest", unfollowed := true, recurses := true, apart := false, narrowed := true }
def FnExactCountGreatestUptoSaid : Prop := fnExactCountGreatestUptoRow.holds Try.pinned (OpenSpec.upto fnExactCountGreatestSpec)

end Rows
end Go.Proofs.Ytblpfjjnlfjloac
