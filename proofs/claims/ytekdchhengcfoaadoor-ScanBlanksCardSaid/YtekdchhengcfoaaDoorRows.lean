/-
  NARROWER THAN 'FOR EVERY INPUT', by the rows' own cells (each row's printed sentence says how): ScanTells: laid · ScanWords: laid · ScanBack: laid · ScanPlaces: laid · ScanBlanks: laid · ScanKinds: laid.
  DERIVED. THE GIVEN ROWS OF THIS SEAT. 6 by the template 'for every input the law returns true; each argument reads behind the call as it read before'; 0 by the template 'total and deterministic' (their statements: YtekdchhengcfoaaDoorTotals.lean).
  GIVEN WITH THE SEED: the statements are not yours to turn. If you find one false, say at which input.
  Laid BY PROGRAM, IN A SANDBOX (cutbox-rows.mjs): the forced cells as the released guide's own fill.sh prints them over the translation 65fcfd7e205fac51… (all of the seat's roots in one cut). By AI agents, Wed Nov 11 2026. No macro, syntax, notation, axiom, sorry.
-/
import Derived.Test.YtekdchhengcfoaaDoorChecked
import GoSem.Claim
import GoSem.ClaimJoined
import GoSem.ClaimMapViews
import Derived.JoinedTies
import Derived.KernelRfl
namespace Go.Proofs.YtekdchhengcfoaaDoor
/- THE CELL 'sum', in the pinned program and in every row, IS THE sha256 OF THE DUMP (.gsa) THAT YtekdchhengcfoaaDoorProg.lean LOADS. Nothing in Lean hashes anything: it is a label: what it is worth is what the hold of that sum in a sandbox is worth. -/
noncomputable def Tryd.pinned : Pinned := { name := "ytekdchhengcfoaadoor", sum := "65fcfd7e205fac51eebfcafd9ea757eee4f03948cc8c838ed2c9a22f13479d56", checked := Tryd.checked }
namespace Rows
def none {H : Type} : Left H := { results := [], args := [] }

/- WHAT THE LISTED PACKAGE-LEVEL VARIABLES READ AS WHEN THE CALL BEGINS. Each datum BY PROGRAM (the guide's laid-datum.mjs) off the statement by which the dump's own 'gosem.cut.vars' lays the variable. In a bare row this is a premise. The card (YtekdchhengcfoaaDoorCards.lean) ties it to the program's text. -/
def laid_dispatcher_scan_signs {H : Type} : DataW H := .agg [.lit (.string [60, 61]), .lit (.string [62, 61]), .lit (.string [61, 61]), .lit (.string [33, 61]), .lit (.string [38, 38]), .lit (.string [124, 124]), .lit (.string [40]), .lit (.string [41]), .lit (.string [123]), .lit (.string [125]), .lit (.string [91]), .lit (.string [93]), .lit (.string [59]), .lit (.string [44]), .lit (.string [61]), .lit (.string [43]), .lit (.string [45]), .lit (.string [42]), .lit (.string [47]), .lit (.string [37]), .lit (.string [60]), .lit (.string [62]), .lit (.string [33])]

/-- 'dispatcherlaw01.ScanTells': WHATEVER THE INPUT: true; the input reads as it did. -/
def scanTellsSpec : ChangeSpec := { name := "scanTells", fn := fun _ => fun
  | [d] => { results := [.lit (.bool true)], args := [d] }
  | _ => none }
def scanTellsRow : OpenClaim := { program := "ytekdchhengcfoaadoor", sum := "65fcfd7e205fac51eebfcafd9ea757eee4f03948cc8c838ed2c9a22f13479d56", func := "dispatcher/dispatcherlaw01.ScanTells", spec := "scanTells", unfollowed := true, recurses := true, named := ["dispatcher/scan.signs"], apart := false, laid := [("dispatcher/scan.signs", laid_dispatcher_scan_signs)] }
def ScanTellsSaid : Prop := scanTellsRow.holds Tryd.pinned (OpenSpec.ofChange scanTellsSpec)

/-- ITS FALSE NEIGHBOUR: 'it returns false'. Refute it at one input. -/
def scanTellsWrong : ChangeSpec := { name := "scanTells", fn := fun _ => fun
  | [d] => { results := [.lit (.bool false)], args := [d] }
  | _ => none }
def ScanTellsWrongFalsely : Prop := scanTellsRow.holds Tryd.pinned (OpenSpec.ofChange scanTellsWrong)

/-- 'dispatcherlaw01.ScanWords': WHATEVER THE INPUT: true; the input reads as it did. -/
def scanWordsSpec : ChangeSpec := { name := "scanWords", fn := fun _ => fun
  | [d] => { results := [.lit (.bool true)], args := [d] }
  | _ => none }
def scanWordsRow : OpenClaim := { program := "ytekdchhengcfoaadoor", sum := "65fcfd7e205fac51eebfcafd9ea757eee4f03948cc8c838ed2c9a22f13479d56", func := "dispatcher/dispatcherlaw01.ScanWords", spec := "scanWords", unfollowed := true, recurses := true, named := ["dispatcher/scan.signs"], apart := false, laid := [("dispatcher/scan.signs", laid_dispatcher_scan_signs)] }
def ScanWordsSaid : Prop := scanWordsRow.holds Tryd.pinned (OpenSpec.ofChange scanWordsSpec)

/-- ITS FALSE NEIGHBOUR: 'it returns false'. Refute it at one input. -/
def scanWordsWrong : ChangeSpec := { name := "scanWords", fn := fun _ => fun
  | [d] => { results := [.lit (.bool false)], args := [d] }
  | _ => none }
def ScanWordsWrongFalsely : Prop := scanWordsRow.holds Tryd.pinned (OpenSpec.ofChange scanWordsWrong)

/-- 'dispatcherlaw01.ScanBack': WHATEVER THE INPUT: true; the input reads as it did. -/
def scanBackSpec : ChangeSpec := { name := "scanBack", fn := fun _ => fun
  | [d] => { results := [.lit (.bool true)], args := [d] }
  | _ => none }
def scanBackRow : OpenClaim := { program := "ytekdchhengcfoaadoor", sum := "65fcfd7e205fac51eebfcafd9ea757eee4f03948cc8c838ed2c9a22f13479d56", func := "dispatcher/dispatcherlaw01.ScanBack", spec := "scanBack", inPlace := ["internal/abi.NoEscape"], unfollowed := true, recurses := true, named := ["dispatcher/scan.signs"], apart := false, laid := [("dispatcher/scan.signs", laid_dispatcher_scan_signs)] }
def ScanBackSaid : Prop := scanBackRow.holds Tryd.pinned (OpenSpec.ofChange scanBackSpec)

/-- ITS FALSE NEIGHBOUR: 'it returns false'. Refute it at one input. -/
def scanBackWrong : ChangeSpec := { name := "scanBack", fn := fun _ => fun
  | [d] => { results := [.lit (.bool false)], args := [d] }
  | _ => none }
def ScanBackWrongFalsely : Prop := scanBackRow.holds Tryd.pinned (OpenSpec.ofChange scanBackWrong)

/-- 'dispatcherlaw01.ScanPlaces': WHATEVER THE INPUT: true; the input reads as it did. -/
def scanPlacesSpec : ChangeSpec := { name := "scanPlaces", fn := fun _ => fun
  | [d] => { results := [.lit (.bool true)], args := [d] }
  | _ => none }
def scanPlacesRow : OpenClaim := { program := "ytekdchhengcfoaadoor", sum := "65fcfd7e205fac51eebfcafd9ea757eee4f03948cc8c838ed2c9a22f13479d56", func := "dispatcher/dispatcherlaw01.ScanPlaces", spec := "scanPlaces", unfollowed := true, recurses := true, named := ["dispatcher/scan.signs"], apart := false, laid := [("dispatcher/scan.signs", laid_dispatcher_scan_signs)] }
def ScanPlacesSaid : Prop := scanPlacesRow.holds Tryd.pinned (OpenSpec.ofChange scanPlacesSpec)

/-- ITS FALSE NEIGHBOUR: 'it returns false'. Refute it at one input. -/
def scanPlacesWrong : ChangeSpec := { name := "scanPlaces", fn := fun _ => fun
  | [d] => { results := [.lit (.bool false)], args := [d] }
  | _ => none }
def ScanPlacesWrongFalsely : Prop := scanPlacesRow.holds Tryd.pinned (OpenSpec.ofChange scanPlacesWrong)

/-- 'dispatcherlaw01.ScanBlanks': WHATEVER THE INPUT: true; the input reads as it did. -/
def scanBlanksSpec : ChangeSpec := { name := "scanBlanks", fn := fun _ => fun
  | [d1, d2, d3] => { results := [.lit (.bool true)], args := [d1, d2, d3] }
  | _ => none }
def scanBlanksRow : OpenClaim := { program := "ytekdchhengcfoaadoor", sum := "65fcfd7e205fac51eebfcafd9ea757eee4f03948cc8c838ed2c9a22f13479d56", func := "dispatcher/dispatcherlaw01.ScanBlanks", spec := "scanBlanks", unfollowed := true, recurses := true, named := ["dispatcher/scan.signs"], apart := false, laid := [("dispatcher/scan.signs", laid_dispatcher_scan_signs)] }
def ScanBlanksSaid : Prop := scanBlanksRow.holds Tryd.pinned (OpenSpec.ofChange scanBlanksSpec)

/-- ITS FALSE NEIGHBOUR: 'it returns false'. Refute it at one input. -/
def scanBlanksWrong : ChangeSpec := { name := "scanBlanks", fn := fun _ => fun
  | [d1, d2, d3] => { results := [.lit (.bool false)], args := [d1, d2, d3] }
  | _ => none }
def ScanBlanksWrongFalsely : Prop := scanBlanksRow.holds Tryd.pinned (OpenSpec.ofChange scanBlanksWrong)

/-- 'dispatcherlaw01.ScanKinds': WHATEVER THE INPUT: true; the input reads as it did. -/
def scanKindsSpec : ChangeSpec := { name := "scanKinds", fn := fun _ => fun
  | [d1, d2] => { results := [.lit (.bool true)], args := [d1, d2] }
  | _ => none }
def scanKindsRow : OpenClaim := { program := "ytekdchhengcfoaadoor", sum := "65fcfd7e205fac51eebfcafd9ea757eee4f03948cc8c838ed2c9a22f13479d56", func := "dispatcher/dispatcherlaw01.ScanKinds", spec := "scanKinds", unfollowed := true, recurses := true, named := ["dispatcher/scan.signs"], apart := false, laid := [("dispatcher/scan.signs", laid_dispatcher_scan_signs)] }
def ScanKindsSaid : Prop := scanKindsRow.holds Tryd.pinned (OpenSpec.ofChange scanKindsSpec)

/-- ITS FALSE NEIGHBOUR: 'it returns false'. Refute it at one input. -/
def scanKindsWrong : ChangeSpec := { name := "scanKinds", fn := fun _ => fun
  | [d1, d2] => { results := [.lit (.bool false)], args := [d1, d2] }
  | _ => none }
def ScanKindsWrongFalsely : Prop := scanKindsRow.holds Tryd.pinned (OpenSpec.ofChange scanKindsWrong)

/- THE SECOND FORM. 'bulk': how many values and letters a reading holds, each counted each time it is reached (what is shared counts as often as it is met; a slice's spare places count too). A statement '..UptoSaid' is the law's where the arguments, and the package variables that the reading takes, are together of bulk at most 1048576: NARROWER than '..Said'. Prove '..Said' where nothing that the law and all that it calls make is longer than what came in: it says more and counts as full. Else prove '..UptoSaid'. A law counts once. -/
mutual
def uptoBulk {H : Type} : DataW H → Nat
  | .lit (.string bytes) => bytes.length + 1
  | .lit _ => 1
  | .nil => 1
  | .ptr d => uptoBulk d + 1
  | .slice elems spare => uptoBulkAll elems + uptoBulkAll spare + 1
  | .agg parts => uptoBulkAll parts + 1
  | .iface _ d => uptoBulk d + 1
  | .map entries => uptoBulkEntries entries + 1
  | .held _ => 1
def uptoBulkAll {H : Type} : List (DataW H) → Nat
  | [] => 0
  | d :: r => uptoBulk d + uptoBulkAll r
def uptoBulkEntries {H : Type} : List (Lit × DataW H) → Nat
  | [] => 0
  | x :: r => uptoBulkEntry x + uptoBulkEntries r
def uptoBulkEntry {H : Type} : Lit × DataW H → Nat
  | (.string bytes, d) => bytes.length + uptoBulk d + 1
  | (_, d) => uptoBulk d + 1
 end
def uptoSmall : (H : Type) → List (DataW H) → Bool := fun _ ds => decide (uptoBulkAll ds ≤ 1048576)
def OpenSpec.upto (s : _root_.Go.ChangeSpec) : _root_.Go.OpenSpec := { _root_.Go.OpenSpec.ofChange s with cond := some uptoSmall }

/-- 'dispatcherlaw01.ScanTells', WHERE WHAT IT READS IS OF BULK AT MOST 1048576: true; the input reads as it did. -/
def scanTellsUptoRow : OpenClaim := { program := "ytekdchhengcfoaadoor", sum := "65fcfd7e205fac51eebfcafd9ea757eee4f03948cc8c838ed2c9a22f13479d56", func := "dispatcher/dispatcherlaw01.ScanTells", spec := "scanTells", unfollowed := true, recurses := true, named := ["dispatcher/scan.signs"], apart := false, laid := [("dispatcher/scan.signs", laid_dispatcher_scan_signs)], narrowed := true }
def ScanTellsUptoSaid : Prop := scanTellsUptoRow.holds Tryd.pinned (OpenSpec.upto scanTellsSpec)

/-- 'dispatcherlaw01.ScanWords', WHERE WHAT IT READS IS OF BULK AT MOST 1048576: true; the input reads as it did. -/
def scanWordsUptoRow : OpenClaim := { program := "ytekdchhengcfoaadoor", sum := "65fcfd7e205fac51eebfcafd9ea757eee4f03948cc8c838ed2c9a22f13479d56", func := "dispatcher/dispatcherlaw01.ScanWords", spec := "scanWords", unfollowed := true, recurses := true, named := ["dispatcher/scan.signs"], apart := false, laid := [("dispatcher/scan.signs", laid_dispatcher_scan_signs)], narrowed := true }
def ScanWordsUptoSaid : Prop := scanWordsUptoRow.holds Tryd.pinned (OpenSpec.upto scanWordsSpec)

/-- 'dispatcherlaw01.ScanBack', WHERE WHAT IT READS IS OF BULK AT MOST 1048576: true; the input reads as it did. -/
def scanBackUptoRow : OpenClaim := { program := "ytekdchhengcfoaadoor", sum := "65fcfd7e205fac51eebfcafd9ea757eee4f03948cc8c838ed2c9a22f13479d56", func := "dispatcher/dispatcherlaw01.ScanBack", spec := "scanBack", inPlace := ["internal/abi.NoEscape"], unfollowed := true, recurses := true, named := ["dispatcher/scan.signs"], apart := false, laid := [("dispatcher/scan.signs", laid_dispatcher_scan_signs)], narrowed := true }
def ScanBackUptoSaid : Prop := scanBackUptoRow.holds Tryd.pinned (OpenSpec.upto scanBackSpec)

/-- 'dispatcherlaw01.ScanPlaces', WHERE WHAT IT READS IS OF BULK AT MOST 1048576: true; the input reads as it did. -/
def scanPlacesUptoRow : OpenClaim := { program := "ytekdchhengcfoaadoor", sum := "65fcfd7e205fac51eebfcafd9ea757eee4f03948cc8c838ed2c9a22f13479d56", func := "dispatcher/dispatcherlaw01.ScanPlaces", spec := "scanPlaces", unfollowed := true, recurses := true, named := ["dispatcher/scan.signs"], apart := false, laid := [("dispatcher/scan.signs", laid_dispatcher_scan_signs)], narrowed := true }
def ScanPlacesUptoSaid : Prop := scanPlacesUptoRow.holds Tryd.pinned (OpenSpec.upto scanPlacesSpec)

/-- 'dispatcherlaw01.ScanBlanks', WHERE WHAT IT READS IS OF BULK AT MOST 1048576: true; the input reads as it did. -/
def scanBlanksUptoRow : OpenClaim := { program := "ytekdchhengcfoaadoor", sum := "65fcfd7e205fac51eebfcafd9ea757eee4f03948cc8c838ed2c9a22f13479d56", func := "dispatcher/dispatcherlaw01.ScanBlanks", spec := "scanBlanks", unfollowed := true, recurses := true, named := ["dispatcher/scan.signs"], apart := false, laid := [("dispatcher/scan.signs", laid_dispatcher_scan_signs)], narrowed := true }
def ScanBlanksUptoSaid : Prop := scanBlanksUptoRow.holds Tryd.pinned (OpenSpec.upto scanBlanksSpec)

/-- 'dispatcherlaw01.ScanKinds', WHERE WHAT IT READS IS OF BULK AT MOST 1048576: true; the input reads as it did. -/
def scanKindsUptoRow : OpenClaim := { program := "ytekdchhengcfoaadoor", sum := "65fcfd7e205fac51eebfcafd9ea757eee4f03948cc8c838ed2c9a22f13479d56", func := "dispatcher/dispatcherlaw01.ScanKinds", spec := "scanKinds", unfollowed := true, recurses := true, named := ["dispatcher/scan.signs"], apart := false, laid := [("dispatcher/scan.signs", laid_dispatcher_scan_signs)], narrowed := true }
def ScanKindsUptoSaid : Prop := scanKindsUptoRow.holds Tryd.pinned (OpenSpec.upto scanKindsSpec)

end Rows
end Go.Proofs.YtekdchhengcfoaaDoor
