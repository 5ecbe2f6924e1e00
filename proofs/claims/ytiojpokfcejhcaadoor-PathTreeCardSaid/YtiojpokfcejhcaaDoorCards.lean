/-
  DERIVED. GIVEN WITH THE SEED: THE CARDS: each row of YtiojpokfcejhcaaDoorRows.lean that lists a variable, with what it lists TIED to the program's text (the seventh form; the later family's looks); each row that meets fmt, with fmt's text TOLD by the authors' own Lean function (tested against real Go, not proved from fmt's source: count such statements apart). THE CARD IS WHAT COUNTS. Prove the row's statement (the work); the ties are given (YtiojpokfcejhcaaDoorTie.lean); close each card by the builder's one call (the guide's Derived/Test/ToyasCard.lean, 'card_holds'). Laid BY PROGRAM, IN A SANDBOX (cutbox-door.mjs). By AI agents, Wed Nov 11 2026. No macro, syntax, notation, axiom, sorry.
-/
import Derived.Test.YtiojpokfcejhcaaDoorRows
import GoSem.ClaimSeven
namespace Go.Proofs.YtiojpokfcejhcaaDoor
namespace Rows

/-- THE TIED CARD OF 'dispatcherlaw24.PathTree'. -/
def pathTreeCard : Claim7 := { stood := { row := pathTreeRow, standIns := [], harness := (true, "30d1ff3764ac4f491170653849c21e94f529823dfc92c9c653ace0161643deb9"), looks := false }, kinds := [], alts := [], laidByText := true, laidKinds := [.data, .data, .data], laidTests := true, laidLooks := .later }
def PathTreeCardSaid : Prop := Claim7.holds Tryd.pinned (.plain (OpenSpec.ofChange pathTreeSpec)) pathTreeCard

/-- THE TIED CARD OF 'dispatcherlaw24.PathOrder'. -/
def pathOrderCard : Claim7 := { stood := { row := pathOrderRow, standIns := [], harness := (true, "30d1ff3764ac4f491170653849c21e94f529823dfc92c9c653ace0161643deb9"), looks := false }, kinds := [], alts := [], laidByText := true, laidKinds := [.data, .data, .data], laidTests := true, laidLooks := .later }
def PathOrderCardSaid : Prop := Claim7.holds Tryd.pinned (.plain (OpenSpec.ofChange pathOrderSpec)) pathOrderCard

/-- THE SECOND FORM's CARD OF 'dispatcherlaw24.PathTree'. -/
def pathTreeUptoCard : Claim7 := { stood := { row := pathTreeUptoRow, standIns := [], harness := (true, "30d1ff3764ac4f491170653849c21e94f529823dfc92c9c653ace0161643deb9"), looks := false }, kinds := [], alts := [], laidByText := true, laidKinds := [.data, .data, .data], laidTests := true, laidLooks := .later }
def PathTreeUptoCardSaid : Prop := Claim7.holds Tryd.pinned (.plain (OpenSpec.upto pathTreeSpec)) pathTreeUptoCard

/-- THE SECOND FORM's CARD OF 'dispatcherlaw24.PathOrder'. -/
def pathOrderUptoCard : Claim7 := { stood := { row := pathOrderUptoRow, standIns := [], harness := (true, "30d1ff3764ac4f491170653849c21e94f529823dfc92c9c653ace0161643deb9"), looks := false }, kinds := [], alts := [], laidByText := true, laidKinds := [.data, .data, .data], laidTests := true, laidLooks := .later }
def PathOrderUptoCardSaid : Prop := Claim7.holds Tryd.pinned (.plain (OpenSpec.upto pathOrderSpec)) pathOrderUptoCard
end Rows
end Go.Proofs.YtiojpokfcejhcaaDoor
