/-
  DERIVED. GIVEN WITH THE SEED: THE CARDS: each row of YtfbkmdfaolmnbaaDoorRows.lean that lists a variable, with what it lists TIED to the program's text (the seventh form; the later family's looks); each row that meets fmt, with fmt's text TOLD by the authors' own Lean function (tested against real Go, not proved from fmt's source: count such statements apart). THE CARD IS WHAT COUNTS. Prove the row's statement (the work); the ties are given (YtfbkmdfaolmnbaaDoorTie.lean); close each card by the builder's one call (the guide's Derived/Test/ToyasCard.lean, 'card_holds'). Laid BY PROGRAM, IN A SANDBOX (cutbox-door.mjs). By AI agents, Wed Nov 11 2026. No macro, syntax, notation, axiom, sorry.
-/
import Derived.Test.YtfbkmdfaolmnbaaDoorRows
import GoSem.ClaimSeven
namespace Go.Proofs.YtfbkmdfaolmnbaaDoor
namespace Rows

/-- THE TIED CARD OF 'dispatcherlaw16.CallTold'. -/
def callToldCard : Claim7 := { stood := { row := callToldRow, standIns := [], harness := (true, "991373dc9074838c979ea271acb39a2ce4498ef6fd15057ba5f97422fbe63bb5"), looks := false }, kinds := [], alts := [], laidByText := true, laidKinds := [.data, .data, .data, .data, .pinned], laidTests := true, laidLooks := .later }
def CallToldCardSaid : Prop := Claim7.holds Tryd.pinned (.plain (OpenSpec.ofChange callToldSpec)) callToldCard

/-- THE SECOND FORM's CARD OF 'dispatcherlaw16.CallTold'. -/
def callToldUptoCard : Claim7 := { stood := { row := callToldUptoRow, standIns := [], harness := (true, "991373dc9074838c979ea271acb39a2ce4498ef6fd15057ba5f97422fbe63bb5"), looks := false }, kinds := [], alts := [], laidByText := true, laidKinds := [.data, .data, .data, .data, .pinned], laidTests := true, laidLooks := .later }
def CallToldUptoCardSaid : Prop := Claim7.holds Tryd.pinned (.plain (OpenSpec.upto callToldSpec)) callToldUptoCard
end Rows
end Go.Proofs.YtfbkmdfaolmnbaaDoor
