/-
  DERIVED. GIVEN WITH THE SEED: THE CARDS: each row of YtmiefdjbhcpnbaaDoorRows.lean that lists a variable, with what it lists TIED to the program's text (the seventh form; the later family's looks); each row that meets fmt, with fmt's text TOLD by the authors' own Lean function (tested against real Go, not proved from fmt's source: count such statements apart). THE CARD IS WHAT COUNTS. Prove the row's statement (the work); the ties are given (YtmiefdjbhcpnbaaDoorTie.lean); close each card by the builder's one call (the guide's Derived/Test/ToyasCard.lean, 'card_holds'). Laid BY PROGRAM, IN A SANDBOX (cutbox-door.mjs). By AI agents, Wed Nov 11 2026. No macro, syntax, notation, axiom, sorry.
-/
import Derived.Test.YtmiefdjbhcpnbaaDoorRows
import GoSem.ClaimSeven
namespace Go.Proofs.YtmiefdjbhcpnbaaDoor
namespace Rows

/-- THE TIED CARD OF 'laws.FnExactTrackText'. -/
def fnExactTrackTextCard : Claim7 := { stood := { row := fnExactTrackTextRow, standIns := [], harness := (true, "008c71b592d4c50b355242addc7b351cbd151ab24a7d4f1acd4df7eaa896e730"), looks := true }, kinds := [], alts := [], laidByText := true, laidKinds := [.data, .data, .data], laidTests := true, laidLooks := .later }
def FnExactTrackTextCardSaid : Prop := Claim7.holds Tryd.pinned (.plain (OpenSpec.ofChange fnExactTrackTextSpec)) fnExactTrackTextCard

/-- THE TIED CARD OF 'laws.FnExactParseTrack'. -/
def fnExactParseTrackCard : Claim7 := { stood := { row := fnExactParseTrackRow, standIns := [], harness := (true, "008c71b592d4c50b355242addc7b351cbd151ab24a7d4f1acd4df7eaa896e730"), looks := true }, kinds := [], alts := [], laidByText := true, laidKinds := [.data, .data, .data, .data, .sentinel, .sentinel, .pinned], laidTests := true, laidLooks := .later }
def FnExactParseTrackCardSaid : Prop := Claim7.holds Tryd.pinned (.plain (OpenSpec.ofChange fnExactParseTrackSpec)) fnExactParseTrackCard

/-- THE TIED CARD OF 'laws.FnExactPuzzleText'. -/
def fnExactPuzzleTextCard : Claim7 := { stood := { row := fnExactPuzzleTextRow, standIns := [], harness := (true, "008c71b592d4c50b355242addc7b351cbd151ab24a7d4f1acd4df7eaa896e730"), looks := true }, kinds := [], alts := [], laidByText := true, laidKinds := [.data, .data, .data], laidTests := true, laidLooks := .later }
def FnExactPuzzleTextCardSaid : Prop := Claim7.holds Tryd.pinned (.plain (OpenSpec.ofChange fnExactPuzzleTextSpec)) fnExactPuzzleTextCard

/-- THE TIED CARD OF 'laws.FnExactParsePuzzle'. -/
def fnExactParsePuzzleCard : Claim7 := { stood := { row := fnExactParsePuzzleRow, standIns := [], harness := (true, "008c71b592d4c50b355242addc7b351cbd151ab24a7d4f1acd4df7eaa896e730"), looks := true }, kinds := [], alts := [], laidByText := true, laidKinds := [.data, .data, .data, .data, .sentinel, .sentinel, .pinned], laidTests := true, laidLooks := .later }
def FnExactParsePuzzleCardSaid : Prop := Claim7.holds Tryd.pinned (.plain (OpenSpec.ofChange fnExactParsePuzzleSpec)) fnExactParsePuzzleCard

/-- THE SECOND FORM's CARD OF 'laws.FnExactTrackText'. -/
def fnExactTrackTextUptoCard : Claim7 := { stood := { row := fnExactTrackTextUptoRow, standIns := [], harness := (true, "008c71b592d4c50b355242addc7b351cbd151ab24a7d4f1acd4df7eaa896e730"), looks := true }, kinds := [], alts := [], laidByText := true, laidKinds := [.data, .data, .data], laidTests := true, laidLooks := .later }
def FnExactTrackTextUptoCardSaid : Prop := Claim7.holds Tryd.pinned (.plain (OpenSpec.upto fnExactTrackTextSpec)) fnExactTrackTextUptoCard

/-- THE SECOND FORM's CARD OF 'laws.FnExactParseTrack'. -/
def fnExactParseTrackUptoCard : Claim7 := { stood := { row := fnExactParseTrackUptoRow, standIns := [], harness := (true, "008c71b592d4c50b355242addc7b351cbd151ab24a7d4f1acd4df7eaa896e730"), looks := true }, kinds := [], alts := [], laidByText := true, laidKinds := [.data, .data, .data, .data, .sentinel, .sentinel, .pinned], laidTests := true, laidLooks := .later }
def FnExactParseTrackUptoCardSaid : Prop := Claim7.holds Tryd.pinned (.plain (OpenSpec.upto fnExactParseTrackSpec)) fnExactParseTrackUptoCard

/-- THE SECOND FORM's CARD OF 'laws.FnExactPuzzleText'. -/
def fnExactPuzzleTextUptoCard : Claim7 := { stood := { row := fnExactPuzzleTextUptoRow, standIns := [], harness := (true, "008c71b592d4c50b355242addc7b351cbd151ab24a7d4f1acd4df7eaa896e730"), looks := true }, kinds := [], alts := [], laidByText := true, laidKinds := [.data, .data, .data], laidTests := true, laidLooks := .later }
def FnExactPuzzleTextUptoCardSaid : Prop := Claim7.holds Tryd.pinned (.plain (OpenSpec.upto fnExactPuzzleTextSpec)) fnExactPuzzleTextUptoCard

/-- THE SECOND FORM's CARD OF 'laws.FnExactParsePuzzle'. -/
def fnExactParsePuzzleUptoCard : Claim7 := { stood := { row := fnExactParsePuzzleUptoRow, standIns := [], harness := (true, "008c71b592d4c50b355242addc7b351cbd151ab24a7d4f1acd4df7eaa896e730"), looks := true }, kinds := [], alts := [], laidByText := true, laidKinds := [.data, .data, .data, .data, .sentinel, .sentinel, .pinned], laidTests := true, laidLooks := .later }
def FnExactParsePuzzleUptoCardSaid : Prop := Claim7.holds Tryd.pinned (.plain (OpenSpec.upto fnExactParsePuzzleSpec)) fnExactParsePuzzleUptoCard
end Rows
end Go.Proofs.YtmiefdjbhcpnbaaDoor
