/-
  DERIVED. GIVEN WITH THE SEED: THE CARDS: each row of YtnmaclpjddafnaaDoorRows.lean that lists a variable, with what it lists TIED to the program's text (the seventh form; the later family's looks); each row that meets fmt, with fmt's text TOLD by the authors' own Lean function (tested against real Go, not proved from fmt's source: count such statements apart). THE CARD IS WHAT COUNTS. Prove the row's statement (the work); the ties are given (YtnmaclpjddafnaaDoorTie.lean); close each card by the builder's one call (the guide's Derived/Test/ToyasCard.lean, 'card_holds'). Laid BY PROGRAM, IN A SANDBOX (cutbox-door.mjs). By AI agents, Wed Nov 11 2026. No macro, syntax, notation, axiom, sorry.
-/
import Derived.Test.YtnmaclpjddafnaaDoorRows
import GoSem.ClaimSeven
namespace Go.Proofs.YtnmaclpjddafnaaDoor
namespace Rows

/-- THE TIED CARD OF 'dispatcherlaw23.SignJoined'. -/
def signJoinedCard : Claim7 := { stood := { row := signJoinedRow, standIns := [], harness := (true, "e15bb0f1a12d47e87af3bdaabd3e98b284ce239032077f27dd9f2935f44041ba"), looks := false }, kinds := [], alts := [], laidByText := true, laidKinds := [.data, .data, .data], laidTests := true, laidLooks := .later }
def SignJoinedCardSaid : Prop := Claim7.holds Tryd.pinned (.plain (OpenSpec.ofChange signJoinedSpec)) signJoinedCard

/-- THE SECOND FORM's CARD OF 'dispatcherlaw23.SignJoined'. -/
def signJoinedUptoCard : Claim7 := { stood := { row := signJoinedUptoRow, standIns := [], harness := (true, "e15bb0f1a12d47e87af3bdaabd3e98b284ce239032077f27dd9f2935f44041ba"), looks := false }, kinds := [], alts := [], laidByText := true, laidKinds := [.data, .data, .data], laidTests := true, laidLooks := .later }
def SignJoinedUptoCardSaid : Prop := Claim7.holds Tryd.pinned (.plain (OpenSpec.upto signJoinedSpec)) signJoinedUptoCard
end Rows
end Go.Proofs.YtnmaclpjddafnaaDoor
