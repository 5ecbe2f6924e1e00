/-
  DERIVED. GIVEN WITH THE SEED: THE CARDS: each row of YtccphiehocdfiaaDoorRows.lean that lists a variable, with what it lists TIED to the program's text (the seventh form; the later family's looks); each row that meets fmt, with fmt's text TOLD by the authors' own Lean function (tested against real Go, not proved from fmt's source: count such statements apart). THE CARD IS WHAT COUNTS. Prove the row's statement (the work); the ties are given (YtccphiehocdfiaaDoorTie.lean); close each card by the builder's one call (the guide's Derived/Test/ToyasCard.lean, 'card_holds'). Laid BY PROGRAM, IN A SANDBOX (cutbox-door.mjs). By AI agents, Wed Nov 11 2026. No macro, syntax, notation, axiom, sorry.
-/
import Derived.Test.YtccphiehocdfiaaDoorRows
import GoSem.ClaimSeven
namespace Go.Proofs.YtccphiehocdfiaaDoor
namespace Rows

/-- THE TIED CARD OF 'dispatcherlaw15.CollNil'. -/
def collNilCard : Claim7 := { stood := { row := collNilRow, standIns := [], harness := (true, "9079dfec7f4e07e60010354dab41839b7593f04589622891bd694727dd7bcbab"), looks := false }, kinds := [], alts := [], laidByText := true, laidKinds := [.data, .data, .data], laidTests := true, laidLooks := .later }
def CollNilCardSaid : Prop := Claim7.holds Tryd.pinned (.plain (OpenSpec.ofChange collNilSpec)) collNilCard

/-- THE TIED CARD OF 'dispatcherlaw04.ScopeNone'. -/
def scopeNoneCard : Claim7 := { stood := { row := scopeNoneRow, standIns := [], harness := (true, "9079dfec7f4e07e60010354dab41839b7593f04589622891bd694727dd7bcbab"), looks := false }, kinds := [], alts := [], laidByText := true, laidKinds := [.data], laidTests := true, laidLooks := .later }
def ScopeNoneCardSaid : Prop := Claim7.holds Tryd.pinned (.plain (OpenSpec.ofChange scopeNoneSpec)) scopeNoneCard

/-- THE SECOND FORM's CARD OF 'dispatcherlaw15.CollNil'. -/
def collNilUptoCard : Claim7 := { stood := { row := collNilUptoRow, standIns := [], harness := (true, "9079dfec7f4e07e60010354dab41839b7593f04589622891bd694727dd7bcbab"), looks := false }, kinds := [], alts := [], laidByText := true, laidKinds := [.data, .data, .data], laidTests := true, laidLooks := .later }
def CollNilUptoCardSaid : Prop := Claim7.holds Tryd.pinned (.plain (OpenSpec.upto collNilSpec)) collNilUptoCard

/-- THE SECOND FORM's CARD OF 'dispatcherlaw04.ScopeNone'. -/
def scopeNoneUptoCard : Claim7 := { stood := { row := scopeNoneUptoRow, standIns := [], harness := (true, "9079dfec7f4e07e60010354dab41839b7593f04589622891bd694727dd7bcbab"), looks := false }, kinds := [], alts := [], laidByText := true, laidKinds := [.data], laidTests := true, laidLooks := .later }
def ScopeNoneUptoCardSaid : Prop := Claim7.holds Tryd.pinned (.plain (OpenSpec.upto scopeNoneSpec)) scopeNoneUptoCard
end Rows
end Go.Proofs.YtccphiehocdfiaaDoor
