/-
  No cell of these rows narrows 'for every input' (looked for: loops, veiled, ifaces, maps, wideKeys, modest, calm, conditions, laid).
  DERIVED. THE GIVEN ROWS OF THIS SEAT. 12 by the template 'for every input the law returns true; each argument reads behind the call as it read before'; 0 by the template 'total and deterministic' (their statements: YtiekdokgjdgajabTotals.lean).
  GIVEN WITH THE SEED: the statements are not yours to turn. If you find one false, say at which input.
  Laid BY PROGRAM, IN A SANDBOX (cutbox-rows.mjs): the forced cells as the released guide's own fill.sh prints them over the translation 01f0356459e3192d… (all of the seat's roots in one cut). By AI agents, Wed Nov 11 2026. No macro, syntax, notation, axiom, sorry.
-/
import Derived.Test.YtiekdokgjdgajabChecked
import GoSem.Claim
import GoSem.ClaimJoined
import GoSem.ClaimMapViews
import Derived.JoinedTies
import Derived.KernelRfl
namespace Go.Proofs.Ytiekdokgjdgajab
/- THE CELL 'sum', in the pinned program and in every row, IS THE sha256 OF THE DUMP (.gsa) THAT YtiekdokgjdgajabProg.lean LOADS. Nothing in Lean hashes anything: it is a label: what it is worth is what the hold of that sum in a sandbox is worth. -/
noncomputable def Try.pinned : Pinned := { name := "ytiekdokgjdgajab", sum := "01f0356459e3192d5f5641a98f1181325ed2ad6f6d7cca24f98b6dddd6f390b2", checked := Try.checked }
namespace Rows
def none {H : Type} : Left H := { results := [], args := [] }

/-- 'laws.FnExactPlacesAfter': WHATEVER THE INPUT: true; the input reads as it did. -/
def fnExactPlacesAfterSpec : ChangeSpec := { name := "fnExactPlacesAfter", fn := fun _ => fun
  | [d1, d2, d3] => { results := [.lit (.bool true)], args := [d1, d2, d3] }
  | _ => none }
def fnExactPlacesAfterRow : OpenClaim := { program := "ytiekdokgjdgajab", sum := "01f0356459e3192d5f5641a98f1181325ed2ad6f6d7cca24f98b6dddd6f390b2", func := "loop.example/g01306/laws.FnExactPlacesAfter", spec := "fnExactPlacesAfter", plainKeys := false, apart := false }
def FnExactPlacesAfterSaid : Prop := fnExactPlacesAfterRow.holds Try.pinned (OpenSpec.ofChange fnExactPlacesAfterSpec)

/-- ITS FALSE NEIGHBOUR: 'it returns false'. Refute it at one input. -/
def fnExactPlacesAfterWrong : ChangeSpec := { name := "fnExactPlacesAfter", fn := fun _ => fun
  | [d1, d2, d3] => { results := [.lit (.bool false)], args := [d1, d2, d3] }
  | _ => none }
def FnExactPlacesAfterWrongFalsely : Prop := fnExactPlacesAfterRow.holds Try.pinned (OpenSpec.ofChange fnExactPlacesAfterWrong)

/-- 'laws.FnExactPartAt': WHATEVER THE INPUT: true; the input reads as it did. -/
def fnExactPartAtSpec : ChangeSpec := { name := "fnExactPartAt", fn := fun _ => fun
  | [d1, d2, d3, d4] => { results := [.lit (.bool true)], args := [d1, d2, d3, d4] }
  | _ => none }
def fnExactPartAtRow : OpenClaim := { program := "ytiekdokgjdgajab", sum := "01f0356459e3192d5f5641a98f1181325ed2ad6f6d7cca24f98b6dddd6f390b2", func := "loop.example/g01306/laws.FnExactPartAt", spec := "fnExactPartAt", plainKeys := false, apart := false }
def FnExactPartAtSaid : Prop := fnExactPartAtRow.holds Try.pinned (OpenSpec.ofChange fnExactPartAtSpec)

/-- ITS FALSE NEIGHBOUR: 'it returns false'. Refute it at one input. -/
def fnExactPartAtWrong : ChangeSpec := { name := "fnExactPartAt", fn := fun _ => fun
  | [d1, d2, d3, d4] => { results := [.lit (.bool false)], args := [d1, d2, d3, d4] }
  | _ => none }
def FnExactPartAtWrongFalsely : Prop := fnExactPartAtRow.holds Try.pinned (OpenSpec.ofChange fnExactPartAtWrong)

/-- 'laws.FnExactPartDone': WHATEVER THE INPUT: true; the input reads as it did. -/
def fnExactPartDoneSpec : ChangeSpec := { name := "fnExactPartDone", fn := fun _ => fun
  | [d1, d2, d3] => { results := [.lit (.bool true)], args := [d1, d2, d3] }
  | _ => none }
def fnExactPartDoneRow : OpenClaim := { program := "ytiekdokgjdgajab", sum := "01f0356459e3192d5f5641a98f1181325ed2ad6f6d7cca24f98b6dddd6f390b2", func := "loop.example/g01306/laws.FnExactPartDone", spec := "fnExactPartDone", plainKeys := false, apart := false }
def FnExactPartDoneSaid : Prop := fnExactPartDoneRow.holds Try.pinned (OpenSpec.ofChange fnExactPartDoneSpec)

/-- ITS FALSE NEIGHBOUR: 'it returns false'. Refute it at one input. -/
def fnExactPartDoneWrong : ChangeSpec := { name := "fnExactPartDone", fn := fun _ => fun
  | [d1, d2, d3] => { results := [.lit (.bool false)], args := [d1, d2, d3] }
  | _ => none }
def FnExactPartDoneWrongFalsely : Prop := fnExactPartDoneRow.holds Try.pinned (OpenSpec.ofChange fnExactPartDoneWrong)

/-- 'laws.FnExactPartDoneAt': WHATEVER THE INPUT: true; the input reads as it did. -/
def fnExactPartDoneAtSpec : ChangeSpec := { name := "fnExactPartDoneAt", fn := fun _ => fun
  | [d1, d2, d3] => { results := [.lit (.bool true)], args := [d1, d2, d3] }
  | _ => none }
def fnExactPartDoneAtRow : OpenClaim := { program := "ytiekdokgjdgajab", sum := "01f0356459e3192d5f5641a98f1181325ed2ad6f6d7cca24f98b6dddd6f390b2", func := "loop.example/g01306/laws.FnExactPartDoneAt", spec := "fnExactPartDoneAt", plainKeys := false, apart := false }
def FnExactPartDoneAtSaid : Prop := fnExactPartDoneAtRow.holds Try.pinned (OpenSpec.ofChange fnExactPartDoneAtSpec)

/-- ITS FALSE NEIGHBOUR: 'it returns false'. Refute it at one input. -/
def fnExactPartDoneAtWrong : ChangeSpec := { name := "fnExactPartDoneAt", fn := fun _ => fun
  | [d1, d2, d3] => { results := [.lit (.bool false)], args := [d1, d2, d3] }
  | _ => none }
def FnExactPartDoneAtWrongFalsely : Prop := fnExactPartDoneAtRow.holds Try.pinned (OpenSpec.ofChange fnExactPartDoneAtWrong)

/-- 'laws.FnExactLikeliestAt': WHATEVER THE INPUT: true; the input reads as it did. -/
def fnExactLikeliestAtSpec : ChangeSpec := { name := "fnExactLikeliestAt", fn := fun _ => fun
  | [d1, d2, d3] => { results := [.lit (.bool true)], args := [d1, d2, d3] }
  | _ => none }
def fnExactLikeliestAtRow : OpenClaim := { program := "ytiekdokgjdgajab", sum := "01f0356459e3192d5f5641a98f1181325ed2ad6f6d7cca24f98b6dddd6f390b2", func := "loop.example/g01306/laws.FnExactLikeliestAt", spec := "fnExactLikeliestAt", plainKeys := false, apart := false }
def FnExactLikeliestAtSaid : Prop := fnExactLikeliestAtRow.holds Try.pinned (OpenSpec.ofChange fnExactLikeliestAtSpec)

/-- ITS FALSE NEIGHBOUR: 'it returns false'. Refute it at one input. -/
def fnExactLikeliestAtWrong : ChangeSpec := { name := "fnExactLikeliestAt", fn := fun _ => fun
  | [d1, d2, d3] => { results := [.lit (.bool false)], args := [d1, d2, d3] }
  | _ => none }
def FnExactLikeliestAtWrongFalsely : Prop := fnExactLikeliestAtRow.holds Try.pinned (OpenSpec.ofChange fnExactLikeliestAtWrong)

/-- 'laws.FnExactAverageAfter': WHATEVER THE INPUT: true; the input reads as it did. -/
def fnExactAverageAfterSpec : ChangeSpec := { name := "fnExactAverageAfter", fn := fun _ => fun
  | [d1, d2, d3] => { results := [.lit (.bool true)], args := [d1, d2, d3] }
  | _ => none }
def fnExactAverageAfterRow : OpenClaim := { program := "ytiekdokgjdgajab", sum := "01f0356459e3192d5f5641a98f1181325ed2ad6f6d7cca24f98b6dddd6f390b2", func := "loop.example/g01306/laws.FnExactAverageAfter", spec := "fnExactAverageAfter", plainKeys := false, apart := false }
def FnExactAverageAfterSaid : Prop := fnExactAverageAfterRow.holds Try.pinned (OpenSpec.ofChange fnExactAverageAfterSpec)

/-- ITS FALSE NEIGHBOUR: 'it returns false'. Refute it at one input. -/
def fnExactAverageAfterWrong : ChangeSpec := { name := "fnExactAverageAfter", fn := fun _ => fun
  | [d1, d2, d3] => { results := [.lit (.bool false)], args := [d1, d2, d3] }
  | _ => none }
def FnExactAverageAfterWrongFalsely : Prop := fnExactAverageAfterRow.holds Try.pinned (OpenSpec.ofChange fnExactAverageAfterWrong)

/-- 'laws.FnExactHalfDone': WHATEVER THE INPUT: true; the input reads as it did. -/
def fnExactHalfDoneSpec : ChangeSpec := { name := "fnExactHalfDone", fn := fun _ => fun
  | [d1, d2] => { results := [.lit (.bool true)], args := [d1, d2] }
  | _ => none }
def fnExactHalfDoneRow : OpenClaim := { program := "ytiekdokgjdgajab", sum := "01f0356459e3192d5f5641a98f1181325ed2ad6f6d7cca24f98b6dddd6f390b2", func := "loop.example/g01306/laws.FnExactHalfDone", spec := "fnExactHalfDone", unfollowed := true, recurses := true, plainKeys := false, apart := false }
def FnExactHalfDoneSaid : Prop := fnExactHalfDoneRow.holds Try.pinned (OpenSpec.ofChange fnExactHalfDoneSpec)

/-- ITS FALSE NEIGHBOUR: 'it returns false'. Refute it at one input. -/
def fnExactHalfDoneWrong : ChangeSpec := { name := "fnExactHalfDone", fn := fun _ => fun
  | [d1, d2] => { results := [.lit (.bool false)], args := [d1, d2] }
  | _ => none }
def FnExactHalfDoneWrongFalsely : Prop := fnExactHalfDoneRow.holds Try.pinned (OpenSpec.ofChange fnExactHalfDoneWrong)

/-- 'laws.FnExactAllDone': WHATEVER THE INPUT: true; the input reads as it did. -/
def fnExactAllDoneSpec : ChangeSpec := { name := "fnExactAllDone", fn := fun _ => fun
  | [d1, d2] => { results := [.lit (.bool true)], args := [d1, d2] }
  | _ => none }
def fnExactAllDoneRow : OpenClaim := { program := "ytiekdokgjdgajab", sum := "01f0356459e3192d5f5641a98f1181325ed2ad6f6d7cca24f98b6dddd6f390b2", func := "loop.example/g01306/laws.FnExactAllDone", spec := "fnExactAllDone", unfollowed := true, recurses := true, plainKeys := false, apart := false }
def FnExactAllDoneSaid : Prop := fnExactAllDoneRow.holds Try.pinned (OpenSpec.ofChange fnExactAllDoneSpec)

/-- ITS FALSE NEIGHBOUR: 'it returns false'. Refute it at one input. -/
def fnExactAllDoneWrong : ChangeSpec := { name := "fnExactAllDone", fn := fun _ => fun
  | [d1, d2] => { results := [.lit (.bool false)], args := [d1, d2] }
  | _ => none }
def FnExactAllDoneWrongFalsely : Prop := fnExactAllDoneRow.holds Try.pinned (OpenSpec.ofChange fnExactAllDoneWrong)

/-- 'laws.FnExactPartMet': WHATEVER THE INPUT: true; the input reads as it did. -/
def fnExactPartMetSpec : ChangeSpec := { name := "fnExactPartMet", fn := fun _ => fun
  | [d1, d2, d3, d4] => { results := [.lit (.bool true)], args := [d1, d2, d3, d4] }
  | _ => none }
def fnExactPartMetRow : OpenClaim := { program := "ytiekdokgjdgajab", sum := "01f0356459e3192d5f5641a98f1181325ed2ad6f6d7cca24f98b6dddd6f390b2", func := "loop.example/g01306/laws.FnExactPartMet", spec := "fnExactPartMet", plainKeys := false, apart := false }
def FnExactPartMetSaid : Prop := fnExactPartMetRow.holds Try.pinned (OpenSpec.ofChange fnExactPartMetSpec)

/-- ITS FALSE NEIGHBOUR: 'it returns false'. Refute it at one input. -/
def fnExactPartMetWrong : ChangeSpec := { name := "fnExactPartMet", fn := fun _ => fun
  | [d1, d2, d3, d4] => { results := [.lit (.bool false)], args := [d1, d2, d3, d4] }
  | _ => none }
def FnExactPartMetWrongFalsely : Prop := fnExactPartMetRow.holds Try.pinned (OpenSpec.ofChange fnExactPartMetWrong)

/-- 'laws.FnExactDoneTable': WHATEVER THE INPUT: true; the input reads as it did. -/
def fnExactDoneTableSpec : ChangeSpec := { name := "fnExactDoneTable", fn := fun _ => fun
  | [d1, d2, d3] => { results := [.lit (.bool true)], args := [d1, d2, d3] }
  | _ => none }
def fnExactDoneTableRow : OpenClaim := { program := "ytiekdokgjdgajab", sum := "01f0356459e3192d5f5641a98f1181325ed2ad6f6d7cca24f98b6dddd6f390b2", func := "loop.example/g01306/laws.FnExactDoneTable", spec := "fnExactDoneTable", plainKeys := false, apart := false }
def FnExactDoneTableSaid : Prop := fnExactDoneTableRow.holds Try.pinned (OpenSpec.ofChange fnExactDoneTableSpec)

/-- ITS FALSE NEIGHBOUR: 'it returns false'. Refute it at one input. -/
def fnExactDoneTableWrong : ChangeSpec := { name := "fnExactDoneTable", fn := fun _ => fun
  | [d1, d2, d3] => { results := [.lit (.bool false)], args := [d1, d2, d3] }
  | _ => none }
def FnExactDoneTableWrongFalsely : Prop := fnExactDoneTableRow.holds Try.pinned (OpenSpec.ofChange fnExactDoneTableWrong)

/-- 'laws.FnExactSnakeBites': WHATEVER THE INPUT: true; the input reads as it did. -/
def fnExactSnakeBitesSpec : ChangeSpec := { name := "fnExactSnakeBites", fn := fun _ => fun
  | [d1, d2, d3] => { results := [.lit (.bool true)], args := [d1, d2, d3] }
  | _ => none }
def fnExactSnakeBitesRow : OpenClaim := { program := "ytiekdokgjdgajab", sum := "01f0356459e3192d5f5641a98f1181325ed2ad6f6d7cca24f98b6dddd6f390b2", func := "loop.example/g01306/laws.FnExactSnakeBites", spec := "fnExactSnakeBites", plainKeys := false, apart := false }
def FnExactSnakeBitesSaid : Prop := fnExactSnakeBitesRow.holds Try.pinned (OpenSpec.ofChange fnExactSnakeBitesSpec)

/-- ITS FALSE NEIGHBOUR: 'it returns false'. Refute it at one input. -/
def fnExactSnakeBitesWrong : ChangeSpec := { name := "fnExactSnakeBites", fn := fun _ => fun
  | [d1, d2, d3] => { results := [.lit (.bool false)], args := [d1, d2, d3] }
  | _ => none }
def FnExactSnakeBitesWrongFalsely : Prop := fnExactSnakeBitesRow.holds Try.pinned (OpenSpec.ofChange fnExactSnakeBitesWrong)

/-- 'laws.FnExactAheadAfter': WHATEVER THE INPUT: true; the input reads as it did. -/
def fnExactAheadAfterSpec : ChangeSpec := { name := "fnExactAheadAfter", fn := fun _ => fun
  | [d1, d2, d3, d4] => { results := [.lit (.bool true)], args := [d1, d2, d3, d4] }
  | _ => none }
def fnExactAheadAfterRow : OpenClaim := { program := "ytiekdokgjdgajab", sum := "01f0356459e3192d5f5641a98f1181325ed2ad6f6d7cca24f98b6dddd6f390b2", func := "loop.example/g01306/laws.FnExactAheadAfter", spec := "fnExactAheadAfter", plainKeys := false, apart := false }
def FnExactAheadAfterSaid : Prop := fnExactAheadAfterRow.holds Try.pinned (OpenSpec.ofChange fnExactAheadAfterSpec)

/-- ITS FALSE NEIGHBOUR: 'it returns false'. Refute it at one input. -/
def fnExactAheadAfterWrong : ChangeSpec := { name := "fnExactAheadAfter", fn := fun _ => fun
  | [d1, d2, d3, d4] => { results := [.lit (.bool false)], args := [d1, d2, d3, d4] }
  | _ => none }
def FnExactAheadAfterWrongFalsely : Prop := fnExactAheadAfterRow.holds Try.pinned (OpenSpec.ofChange fnExactAheadAfterWrong)

/- THE SECOND FORM. 'bulk': how many values and letters a reading holds, each counted each time it is reached (what is shared counts as often as it is met; a slice's spare places count too). A statement '..UptoSaid' is the law's where the arguments, and the package variables that the reading takes, are together of bulk at most 1048576: NARROWER than '..Said'. Prove '..Said' where nothing that the law and all that it calls make is longer than what came in: it says more and counts as full. Else prove '..UptoSaid'. A law counts once. -/
mutual
def uptoBulk {H : Type} : DataW H → Nat
  | .lit (.string bytes) => bytes.length + 1
  | .lit _ => 1
  | .nil => 1
  | .ptr d => uptoBulk d + 1
  | .slice elems spare => uptoBulkAll elems + uptoBulkAll spare + 1
  | .agg parts => uptoBulkAll parts + 1
  | .iface _ d => uptoBulk d + 1
  | .map entries => uptoBulkEntries entries + 1
  | .held _ => 1
def uptoBulkAll {H : Type} : List (DataW H) → Nat
  | [] => 0
  | d :: r => uptoBulk d + uptoBulkAll r
def uptoBulkEntries {H : Type} : List (Lit × DataW H) → Nat
  | [] => 0
  | x :: r => uptoBulkEntry x + uptoBulkEntries r
def uptoBulkEntry {H : Type} : Lit × DataW H → Nat
  | (.string bytes, d) => bytes.length + uptoBulk d + 1
  | (_, d) => uptoBulk d + 1
 end
def uptoSmall : (H : Type) → List (DataW H) → Bool := fun _ ds => decide (uptoBulkAll ds ≤ 1048576)
def OpenSpec.upto (s : _root_.Go.ChangeSpec) : _root_.Go.OpenSpec := { _root_.Go.OpenSpec.ofChange s with cond := some uptoSmall }

/-- 'laws.FnExactPlacesAfter', WHERE WHAT IT READS IS OF BULK AT MOST 1048576: true; the input reads as it did. -/
def fnExactPlacesAfterUptoRow : OpenClaim := { program := "ytiekdokgjdgajab", sum := "01f0356459e3192d5f5641a98f1181325ed2ad6f6d7cca24f98b6dddd6f390b2", func := "loop.example/g01306/laws.FnExactPlacesAfter", spec := "fnExactPlacesAfter", plainKeys := false, apart := false, narrowed := true }
def FnExactPlacesAfterUptoSaid : Prop := fnExactPlacesAfterUptoRow.holds Try.pinned (OpenSpec.upto fnExactPlacesAfterSpec)

/-- 'laws.FnExactPartAt', WHERE WHAT IT READS IS OF BULK AT MOST 1048576: true; the input reads as it did. -/
def fnExactPartAtUptoRow : OpenClaim := { program := "ytiekdokgjdgajab", sum := "01f0356459e3192d5f5641a98f1181325ed2ad6f6d7cca24f98b6dddd6f390b2", func := "loop.example/g01306/laws.FnExactPartAt", spec := "fnExactPartAt", plainKeys := false, apart := false, narrowed := true }
def FnExactPartAtUptoSaid : Prop := fnExactPartAtUptoRow.holds Try.pinned (OpenSpec.upto fnExactPartAtSpec)

/-- 'laws.FnExactPartDone', WHERE WHAT IT READS IS OF BULK AT MOST 1048576: true; the input reads as it did. -/
def fnExactPartDoneUptoRow : OpenClaim := { program := "ytiekdokgjdgajab", sum := "01f0356459e3192d5f5641a98f1181325ed2ad6f6d7cca24f98b6dddd6f390b2", func := "loop.example/g01306/laws.FnExactPartDone", spec := "fnExactPartDone", plainKeys := false, apart := false, narrowed := true }
def FnExactPartDoneUptoSaid : Prop := fnExactPartDoneUptoRow.holds Try.pinned (OpenSpec.upto fnExactPartDoneSpec)

/-- 'laws.FnExactPartDoneAt', WHERE WHAT IT READS IS OF BULK AT MOST 1048576: true; the input reads as it did. -/
def fnExactPartDoneAtUptoRow : OpenClaim := { program := "ytiekdokgjdgajab", sum := "01f0356459e3192d5f5641a98f1181325ed2ad6f6d7cca24f98b6dddd6f390b2", func := "loop.example/g01306/laws.FnExactPartDoneAt", spec := "fnExactPartDoneAt", plainKeys := false, apart := false, narrowed := true }
def FnExactPartDoneAtUptoSaid : Prop := fnExactPartDoneAtUptoRow.holds Try.pinned (OpenSpec.upto fnExactPartDoneAtSpec)

/-- 'laws.FnExactLikeliestAt', WHERE WHAT IT READS IS OF BULK AT MOST 1048576: true; the input reads as it did. -/
def fnExactLikeliestAtUptoRow : OpenClaim := { program := "ytiekdokgjdgajab", sum := "01f0356459e3192d5f5641a98f1181325ed2ad6f6d7cca24f98b6dddd6f390b2", func := "loop.example/g01306/laws.FnExactLikeliestAt", spec := "fnExactLikeliestAt", plainKeys := false, apart := false, narrowed := true }
def FnExactLikeliestAtUptoSaid : Prop := fnExactLikeliestAtUptoRow.holds Try.pinned (OpenSpec.upto fnExactLikeliestAtSpec)

/-- 'laws.FnExactAverageAfter', WHERE WHAT IT READS IS OF BULK AT MOST 1048576: true; the input reads as it did. -/
def fnExactAverageAfterUptoRow : OpenClaim := { program := "ytiekdokgjdgajab", sum := "01f0356459e3192d5f5641a98f1181325ed2ad6f6d7cca24f98b6dddd6f390b2", func := "loop.example/g01306/laws.FnExactAverageAfter", spec := "fnExactAverageAfter", plainKeys := false, apart := false, narrowed := true }
def FnExactAverageAfterUptoSaid : Prop := fnExactAverageAfterUptoRow.holds Try.pinned (OpenSpec.upto fnExactAverageAfterSpec)

/-- 'laws.FnExactHalfDone', WHERE WHAT IT READS IS OF BULK AT MOST 1048576: true; the input reads as it did. -/
def fnExactHalfDoneUptoRow : OpenClaim := { program := "ytiekdokgjdgajab", sum := "01f0356459e3192d5f5641a98f1181325ed2ad6f6d7cca24f98b6dddd6f390b2", func := "loop.example/g01306/laws.FnExactHalfDone", spec := "fnExactHalfDone", unfollowed := true, recurses := true, plainKeys := false, apart := false, narrowed := true }
def FnExactHalfDoneUptoSaid : Prop := fnExactHalfDoneUptoRow.holds Try.pinned (OpenSpec.upto fnExactHalfDoneSpec)

/-- 'laws.FnExactAllDone', WHERE WHAT IT READS IS OF BULK AT MOST 1048576: true; the input reads as it did. -/
def fnExactAllDoneUptoRow : OpenClaim := { program := "ytiekdokgjdgajab", sum := "01f0356459e3192d5f5641a98f1181325ed2ad6f6d7cca24f98b6dddd6f390b2", func := "loop.example/g01306/laws.FnExactAllDone", spec := "fnExactAllDone", unfollowed := true, recurses := true, plainKeys := false, apart := false, narrowed := true }
def FnExactAllDoneUptoSaid : Prop := fnExactAllDoneUptoRow.holds Try.pinned (OpenSpec.upto fnExactAllDoneSpec)

/-- 'laws.FnExactPartMet', WHERE WHAT IT READS IS OF BULK AT MOST 1048576: true; the input reads as it did. -/
def fnExactPartMetUptoRow : OpenClaim := { program := "ytiekdokgjdgajab", sum := "01f0356459e3192d5f5641a98f1181325ed2ad6f6d7cca24f98b6dddd6f390b2", func := "loop.example/g01306/laws.FnExactPartMet", spec := "fnExactPartMet", plainKeys := false, apart := false, narrowed := true }
def FnExactPartMetUptoSaid : Prop := fnExactPartMetUptoRow.holds Try.pinned (OpenSpec.upto fnExactPartMetSpec)

/-- 'laws.FnExactDoneTable', WHERE WHAT IT READS IS OF BULK AT MOST 1048576: true; the input reads as it did. -/
def fnExactDoneTableUptoRow : OpenClaim := { program := "ytiekdokgjdgajab", sum := "01f0356459e3192d5f5641a98f1181325ed2ad6f6d7cca24f98b6dddd6f390b2", func := "loop.example/g01306/laws.FnExactDoneTable", spec := "fnExactDoneTable", plainKeys := false, apart := false, narrowed := true }
def FnExactDoneTableUptoSaid : Prop := fnExactDoneTableUptoRow.holds Try.pinned (OpenSpec.upto fnExactDoneTableSpec)

/-- 'laws.FnExactSnakeBites', WHERE WHAT IT READS IS OF BULK AT MOST 1048576: true; the input reads as it did. -/
def fnExactSnakeBitesUptoRow : OpenClaim := { program := "ytiekdokgjdgajab", sum := "01f0356459e3192d5f5641a98f1181325ed2ad6f6d7cca24f98b6dddd6f390b2", func := "loop.example/g01306/laws.FnExactSnakeBites", spec := "fnExactSnakeBites", plainKeys := false, apart := false, narrowed := true }
def FnExactSnakeBitesUptoSaid : Prop := fnExactSnakeBitesUptoRow.holds Try.pinned (OpenSpec.upto fnExactSnakeBitesSpec)

/-- 'laws.FnExactAheadAfter', WHERE WHAT IT READS IS OF BULK AT MOST 1048576: true; the input reads as it did. -/
def fnExactAheadAfterUptoRow : OpenClaim := { program := "ytiekdokgjdgajab", sum := "01f0356459e3192d5f5641a98f1181325ed2ad6f6d7cca24f98b6dddd6f390b2", func := "loop.example/g01306/laws.FnExactAheadAfter", spec := "fnExactAheadAfter", plainKeys := false, apart := false, narrowed := true }
def FnExactAheadAfterUptoSaid : Prop := fnExactAheadAfterUptoRow.holds Try.pinned (OpenSpec.upto fnExactAheadAfterSpec)

end Rows
end Go.Proofs.Ytiekdokgjdgajab
