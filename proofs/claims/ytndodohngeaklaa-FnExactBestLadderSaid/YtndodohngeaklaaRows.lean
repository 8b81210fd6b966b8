/-
  No cell of these rows narrows 'for every input' (looked for: loops, veiled, ifaces, maps, wideKeys, modest, calm, conditions, laid).
  DERIVED. THE GIVEN ROWS OF THIS SEAT. 6 by the template 'for every input the law returns true; each argument reads behind the call as it read before'; 0 by the template 'total and deterministic' (their statements: YtndodohngeaklaaTotals.lean).
  GIVEN WITH THE SEED: the statements are not yours to turn. If you find one false, say at which input.
  Laid BY PROGRAM, IN A SANDBOX (cutbox-rows.mjs): the forced cells as the released guide's own fill.sh prints them over the translation 386d844c4e826ee4… (all of the seat's roots in one cut). By AI agents, Wed Nov 11 2026. No macro, syntax, notation, axiom, sorry.
-/
import Derived.Test.YtndodohngeaklaaChecked
import GoSem.Claim
import GoSem.ClaimJoined
import GoSem.ClaimMapViews
import Derived.JoinedTies
import Derived.KernelRfl
namespace Go.Proofs.Ytndodohngeaklaa
/- THE CELL 'sum', in the pinned program and in every row, IS THE sha256 OF THE DUMP (.gsa) THAT YtndodohngeaklaaProg.lean LOADS. Nothing in Lean hashes anything: it is a label: what it is worth is what the hold of that sum in a sandbox is worth. -/
noncomputable def Try.pinned : Pinned := { name := "ytndodohngeaklaa", sum := "386d844c4e826ee4f07dbd2773703884fe838d4de8ff09ed267bf37a2bfc6a52", checked := Try.checked }
namespace Rows
def none {H : Type} : Left H := { results := [], args := [] }

/-- 'laws.FnExactFacesTo': WHATEVER THE INPUT: true; the input reads as it did. -/
def fnExactFacesToSpec : ChangeSpec := { name := "fnExactFacesTo", fn := fun _ => fun
  | [d1, d2, d3] => { results := [.lit (.bool true)], args := [d1, d2, d3] }
  | _ => none }
def fnExactFacesToRow : OpenClaim := { program := "ytndodohngeaklaa", sum := "386d844c4e826ee4f07dbd2773703884fe838d4de8ff09ed267bf37a2bfc6a52", func := "loop.example/g01306/laws.FnExactFacesTo", spec := "fnExactFacesTo", apart := false }
def FnExactFacesToSaid : Prop := fnExactFacesToRow.holds Try.pinned (OpenSpec.ofChange fnExactFacesToSpec)

/-- ITS FALSE NEIGHBOUR: 'it returns false'. Refute it at one input. -/
def fnExactFacesToWrong : ChangeSpec := { name := "fnExactFacesTo", fn := fun _ => fun
  | [d1, d2, d3] => { results := [.lit (.bool false)], args := [d1, d2, d3] }
  | _ => none }
def FnExactFacesToWrongFalsely : Prop := fnExactFacesToRow.holds Try.pinned (OpenSpec.ofChange fnExactFacesToWrong)

/-- 'laws.FnExactAddJump': WHATEVER THE INPUT: true; the input reads as it did. -/
def fnExactAddJumpSpec : ChangeSpec := { name := "fnExactAddJump", fn := fun _ => fun
  | [d1, d2] => { results := [.lit (.bool true)], args := [d1, d2] }
  | _ => none }
def fnExactAddJumpRow : OpenClaim := { program := "ytndodohngeaklaa", sum := "386d844c4e826ee4f07dbd2773703884fe838d4de8ff09ed267bf37a2bfc6a52", func := "loop.example/g01306/laws.FnExactAddJump", spec := "fnExactAddJump", unfollowed := true, recurses := true, apart := false }
def FnExactAddJumpSaid : Prop := fnExactAddJumpRow.holds Try.pinned (OpenSpec.ofChange fnExactAddJumpSpec)

/-- ITS FALSE NEIGHBOUR: 'it returns false'. Refute it at one input. -/
def fnExactAddJumpWrong : ChangeSpec := { name := "fnExactAddJump", fn := fun _ => fun
  | [d1, d2] => { results := [.lit (.bool false)], args := [d1, d2] }
  | _ => none }
def FnExactAddJumpWrongFalsely : Prop := fnExactAddJumpRow.holds Try.pinned (OpenSpec.ofChange fnExactAddJumpWrong)

/-- 'laws.FnExactDropJump': WHATEVER THE INPUT: true; the input reads as it did. -/
def fnExactDropJumpSpec : ChangeSpec := { name := "fnExactDropJump", fn := fun _ => fun
  | [d1, d2] => { results := [.lit (.bool true)], args := [d1, d2] }
  | _ => none }
def fnExactDropJumpRow : OpenClaim := { program := "ytndodohngeaklaa", sum := "386d844c4e826ee4f07dbd2773703884fe838d4de8ff09ed267bf37a2bfc6a52", func := "loop.example/g01306/laws.FnExactDropJump", spec := "fnExactDropJump", unfollowed := true, recurses := true, apart := false }
def FnExactDropJumpSaid : Prop := fnExactDropJumpRow.holds Try.pinned (OpenSpec.ofChange fnExactDropJumpSpec)

/-- ITS FALSE NEIGHBOUR: 'it returns false'. Refute it at one input. -/
def fnExactDropJumpWrong : ChangeSpec := { name := "fnExactDropJump", fn := fun _ => fun
  | [d1, d2] => { results := [.lit (.bool false)], args := [d1, d2] }
  | _ => none }
def FnExactDropJumpWrongFalsely : Prop := fnExactDropJumpRow.holds Try.pinned (OpenSpec.ofChange fnExactDropJumpWrong)

/-- 'laws.FnExactTurnJumps': WHATEVER THE INPUT: true; the input reads as it did. -/
def fnExactTurnJumpsSpec : ChangeSpec := { name := "fnExactTurnJumps", fn := fun _ => fun
  | [d] => { results := [.lit (.bool true)], args := [d] }
  | _ => none }
def fnExactTurnJumpsRow : OpenClaim := { program := "ytndodohngeaklaa", sum := "386d844c4e826ee4f07dbd2773703884fe838d4de8ff09ed267bf37a2bfc6a52", func := "loop.example/g01306/laws.FnExactTurnJumps", spec := "fnExactTurnJumps", unfollowed := true, recurses := true, apart := false }
def FnExactTurnJumpsSaid : Prop := fnExactTurnJumpsRow.holds Try.pinned (OpenSpec.ofChange fnExactTurnJumpsSpec)

/-- ITS FALSE NEIGHBOUR: 'it returns false'. Refute it at one input. -/
def fnExactTurnJumpsWrong : ChangeSpec := { name := "fnExactTurnJumps", fn := fun _ => fun
  | [d] => { results := [.lit (.bool false)], args := [d] }
  | _ => none }
def FnExactTurnJumpsWrongFalsely : Prop := fnExactTurnJumpsRow.holds Try.pinned (OpenSpec.ofChange fnExactTurnJumpsWrong)

/-- 'laws.FnExactBestLadder': WHATEVER THE INPUT: true; the input reads as it did. -/
def fnExactBestLadderSpec : ChangeSpec := { name := "fnExactBestLadder", fn := fun _ => fun
  | [d] => { results := [.lit (.bool true)], args := [d] }
  | _ => none }
def fnExactBestLadderRow : OpenClaim := { program := "ytndodohngeaklaa", sum := "386d844c4e826ee4f07dbd2773703884fe838d4de8ff09ed267bf37a2bfc6a52", func := "loop.example/g01306/laws.FnExactBestLadder", spec := "fnExactBestLadder", apart := false }
def FnExactBestLadderSaid : Prop := fnExactBestLadderRow.holds Try.pinned (OpenSpec.ofChange fnExactBestLadderSpec)

/-- ITS FALSE NEIGHBOUR: 'it returns false'. Refute it at one input. -/
def fnExactBestLadderWrong : ChangeSpec := { name := "fnExactBestLadder", fn := fun _ => fun
  | [d] => { results := [.lit (.bool false)], args := [d] }
  | _ => none }
def FnExactBestLadderWrongFalsely : Prop := fnExactBestLadderRow.holds Try.pinned (OpenSpec.ofChange fnExactBestLadderWrong)

/-- 'laws.FnExactHasMean': WHATEVER THE INPUT: true; the input reads as it did. -/
def fnExactHasMeanSpec : ChangeSpec := { name := "fnExactHasMean", fn := fun _ => fun
  | [d1, d2] => { results := [.lit (.bool true)], args := [d1, d2] }
  | _ => none }
def fnExactHasMeanRow : OpenClaim := { program := "ytndodohngeaklaa", sum := "386d844c4e826ee4f07dbd2773703884fe838d4de8ff09ed267bf37a2bfc6a52", func := "loop.example/g01306/laws.FnExactHasMean", spec := "fnExactHasMean", apart := false }
def FnExactHasMeanSaid : Prop := fnExactHasMeanRow.holds Try.pinned (OpenSpec.ofChange fnExactHasMeanSpec)

/-- ITS FALSE NEIGHBOUR: 'it returns false'. Refute it at one input. -/
def fnExactHasMeanWrong : ChangeSpec := { name := "fnExactHasMean", fn := fun _ => fun
  | [d1, d2] => { results := [.lit (.bool false)], args := [d1, d2] }
  | _ => none }
def FnExactHasMeanWrongFalsely : Prop := fnExactHasMeanRow.holds Try.pinned (OpenSpec.ofChange fnExactHasMeanWrong)

/- THE SECOND FORM. 'bulk': how many values and letters a reading holds, each counted each time it is reached (what is shared counts as often as it is met; a slice's spare places count too). A statement '..UptoSaid' is the law's where the arguments, and the package variables that the reading takes, are together of bulk at most 1048576: NARROWER than '..Said'. Prove '..Said' where nothing that the law and all that it calls make is longer than what came in: it says more and counts as full. Else prove '..UptoSaid'. A law counts once. -/
mutual
def uptoBulk {H : Type} : DataW H → Nat
  | .lit (.string bytes) => bytes.length + 1
  | .lit _ => 1
  | .nil => 1
  | .ptr d => uptoBulk d + 1
  | .slice elems spare => uptoBulkAll elems + uptoBulkAll spare + 1
  | .agg parts => uptoBulkAll parts + 1
  | .iface _ d => uptoBulk d + 1
  | .map entries => uptoBulkEntries entries + 1
  | .held _ => 1
def uptoBulkAll {H : Type} : List (DataW H) → Nat
  | [] => 0
  | d :: r => uptoBulk d + uptoBulkAll r
def uptoBulkEntries {H : Type} : List (Lit × DataW H) → Nat
  | [] => 0
  | x :: r => uptoBulkEntry x + uptoBulkEntries r
def uptoBulkEntry {H : Type} : Lit × DataW H → Nat
  | (.string bytes, d) => bytes.length + uptoBulk d + 1
  | (_, d) => uptoBulk d + 1
 end
def uptoSmall : (H : Type) → List (DataW H) → Bool := fun _ ds => decide (uptoBulkAll ds ≤ 1048576)
def OpenSpec.upto (s : _root_.Go.ChangeSpec) : _root_.Go.OpenSpec := { _root_.Go.OpenSpec.ofChange s with cond := some uptoSmall }

/-- 'laws.FnExactFacesTo', WHERE WHAT IT READS IS OF BULK AT MOST 1048576: true; the input reads as it did. -/
def fnExactFacesToUptoRow : OpenClaim := { program := "ytndodohngeaklaa", sum := "386d844c4e826ee4f07dbd2773703884fe838d4de8ff09ed267bf37a2bfc6a52", func := "loop.example/g01306/laws.FnExactFacesTo", spec := "fnExactFacesTo", apart := false, narrowed := true }
def FnExactFacesToUptoSaid : Prop := fnExactFacesToUptoRow.holds Try.pinned (OpenSpec.upto fnExactFacesToSpec)

/-- 'laws.FnExactAddJump', WHERE WHAT IT READS IS OF BULK AT MOST 1048576: true; the input reads as it did. -/
def fnExactAddJumpUptoRow : OpenClaim := { program := "ytndodohngeaklaa", sum := "386d844c4e826ee4f07dbd2773703884fe838d4de8ff09ed267bf37a2bfc6a52", func := "loop.example/g01306/laws.FnExactAddJump", spec := "fnExactAddJump", unfollowed := true, recurses := true, apart := false, narrowed := true }
def FnExactAddJumpUptoSaid : Prop := fnExactAddJumpUptoRow.holds Try.pinned (OpenSpec.upto fnExactAddJumpSpec)

/-- 'laws.FnExactDropJump', WHERE WHAT IT READS IS OF BULK AT MOST 1048576: true; the input reads as it did. -/
def fnExactDropJumpUptoRow : OpenClaim := { program := "ytndodohngeaklaa", sum := "386d844c4e826ee4f07dbd2773703884fe838d4de8ff09ed267bf37a2bfc6a52", func := "loop.example/g01306/laws.FnExactDropJump", spec := "fnExactDropJump", unfollowed := true, recurses := true, apart := false, narrowed := true }
def FnExactDropJumpUptoSaid : Prop := fnExactDropJumpUptoRow.holds Try.pinned (OpenSpec.upto fnExactDropJumpSpec)

/-- 'laws.FnExactTurnJumps', WHERE WHAT IT READS IS OF BULK AT MOST 1048576: true; the input reads as it did. -/
def fnExactTurnJumpsUptoRow : OpenClaim := { program := "ytndodohngeaklaa", sum := "386d844c4e826ee4f07dbd2773703884fe838d4de8ff09ed267bf37a2bfc6a52", func := "loop.example/g01306/laws.FnExactTurnJumps", spec := "fnExactTurnJumps", unfollowed := true, recurses := true, apart := false, narrowed := true }
def FnExactTurnJumpsUptoSaid : Prop := fnExactTurnJumpsUptoRow.holds Try.pinned (OpenSpec.upto fnExactTurnJumpsSpec)

/-- 'laws.FnExactBestLadder', WHERE WHAT IT READS IS OF BULK AT MOST 1048576: true; the input reads as it did. -/
def fnExactBestLadderUptoRow : OpenClaim := { program := "ytndodohngeaklaa", sum := "386d844c4e826ee4f07dbd2773703884fe838d4de8ff09ed267bf37a2bfc6a52", func := "loop.example/g01306/laws.FnExactBestLadder", spec := "fnExactBestLadder", apart := false, narrowed := true }
def FnExactBestLadderUptoSaid : Prop := fnExactBestLadderUptoRow.holds Try.pinned (OpenSpec.upto fnExactBestLadderSpec)

/-- 'laws.FnExactHasMean', WHERE WHAT IT READS IS OF BULK AT MOST 1048576: true; the input reads as it did. -/
def fnExactHasMeanUptoRow : OpenClaim := { program := "ytndodohngeaklaa", sum := "386d844c4e826ee4f07dbd2773703884fe838d4de8ff09ed267bf37a2bfc6a52", func := "loop.example/g01306/laws.FnExactHasMean", spec := "fnExactHasMean", apart := false, narrowed := true }
def FnExactHasMeanUptoSaid : Prop := fnExactHasMeanUptoRow.holds Try.pinned (OpenSpec.upto fnExactHasMeanSpec)

end Rows
end Go.Proofs.Ytndodohngeaklaa
