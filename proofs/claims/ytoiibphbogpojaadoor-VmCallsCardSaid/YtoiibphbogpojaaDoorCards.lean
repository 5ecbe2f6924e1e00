/-
  DERIVED. GIVEN WITH THE SEED: THE CARDS: each row of YtoiibphbogpojaaDoorRows.lean that lists a variable, with what it lists TIED to the program's text (the seventh form; the later family's looks); each row that meets fmt, with fmt's text TOLD by the authors' own Lean function (tested against real Go, not proved from fmt's source: count such statements apart). THE CARD IS WHAT COUNTS. Prove the row's statement (the work); the ties are given (YtoiibphbogpojaaDoorTie.lean); close each card by the builder's one call (the guide's Derived/Test/ToyasCard.lean, 'card_holds'). Laid BY PROGRAM, IN A SANDBOX (cutbox-door.mjs). By AI agents, Wed Nov 11 2026. No macro, syntax, notation, axiom, sorry.
-/
import Derived.Test.YtoiibphbogpojaaDoorRows
import GoSem.ClaimSeven
namespace Go.Proofs.YtoiibphbogpojaaDoor
namespace Rows

/-- THE TIED CARD OF 'dispatcherlaw07.VmOne'. -/
def vmOneCard : Claim7 := { stood := { row := vmOneRow, standIns := [], harness := (true, "fe36537e720cb796aa351cc547f12ac0f1e39f96881c1a1cdc2ebc30d4232871"), looks := false }, kinds := [], alts := [], laidByText := true, laidKinds := [.data], laidTests := true, laidLooks := .later }
def VmOneCardSaid : Prop := Claim7.holds Tryd.pinned (.plain (OpenSpec.ofChange vmOneSpec)) vmOneCard

/-- THE TIED CARD OF 'dispatcherlaw07.VmCalls'. -/
def vmCallsCard : Claim7 := { stood := { row := vmCallsRow, standIns := [], harness := (true, "fe36537e720cb796aa351cc547f12ac0f1e39f96881c1a1cdc2ebc30d4232871"), looks := false }, kinds := [], alts := [], laidByText := true, laidKinds := [.data], laidTests := true, laidLooks := .later }
def VmCallsCardSaid : Prop := Claim7.holds Tryd.pinned (.plain (OpenSpec.ofChange vmCallsSpec)) vmCallsCard

/-- THE SECOND FORM's CARD OF 'dispatcherlaw07.VmOne'. -/
def vmOneUptoCard : Claim7 := { stood := { row := vmOneUptoRow, standIns := [], harness := (true, "fe36537e720cb796aa351cc547f12ac0f1e39f96881c1a1cdc2ebc30d4232871"), looks := false }, kinds := [], alts := [], laidByText := true, laidKinds := [.data], laidTests := true, laidLooks := .later }
def VmOneUptoCardSaid : Prop := Claim7.holds Tryd.pinned (.plain (OpenSpec.upto vmOneSpec)) vmOneUptoCard

/-- THE SECOND FORM's CARD OF 'dispatcherlaw07.VmCalls'. -/
def vmCallsUptoCard : Claim7 := { stood := { row := vmCallsUptoRow, standIns := [], harness := (true, "fe36537e720cb796aa351cc547f12ac0f1e39f96881c1a1cdc2ebc30d4232871"), looks := false }, kinds := [], alts := [], laidByText := true, laidKinds := [.data], laidTests := true, laidLooks := .later }
def VmCallsUptoCardSaid : Prop := Claim7.holds Tryd.pinned (.plain (OpenSpec.upto vmCallsSpec)) vmCallsUptoCard
end Rows
end Go.Proofs.YtoiibphbogpojaaDoor
