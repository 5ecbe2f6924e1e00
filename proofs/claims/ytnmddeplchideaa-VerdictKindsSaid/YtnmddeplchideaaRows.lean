/-
  NARROWER THAN 'FOR EVERY INPUT', by the rows' own cells (each row's printed sentence says how): BoundDecides: loops.
  DERIVED. THE GIVEN ROWS OF THIS SEAT. 5 by the template 'for every input the law returns true; each argument reads behind the call as it read before'; 0 by the template 'total and deterministic' (their statements: YtnmddeplchideaaTotals.lean).
  GIVEN WITH THE SEED: the statements are not yours to turn. If you find one false, say at which input.
  Laid BY PROGRAM, IN A SANDBOX (cutbox-rows.mjs): the forced cells as the released guide's own fill.sh prints them over the translation 1fd24ec2d52353de… (all of the seat's roots in one cut). By AI agents, Wed Nov 11 2026. No macro, syntax, notation, axiom, sorry.
-/
import Derived.Test.YtnmddeplchideaaChecked
import GoSem.Claim
import GoSem.ClaimJoined
import GoSem.ClaimMapViews
import Derived.JoinedTies
import Derived.KernelRfl
namespace Go.Proofs.Ytnmddeplchideaa
/- THE CELL 'sum', in the pinned program and in every row, IS THE sha256 OF THE DUMP (.gsa) THAT YtnmddeplchideaaProg.lean LOADS. Nothing in Lean hashes anything: it is a label: what it is worth is what the hold of that sum in a sandbox is worth. -/
noncomputable def Try.pinned : Pinned := { name := "ytnmddeplchideaa", sum := "1fd24ec2d52353de747f4c7ded92f5544cf9361afe5a32cdca53fc050871ed1d", checked := Try.checked }
namespace Rows
def none {H : Type} : Left H := { results := [], args := [] }

/-- 'dispatcherlaw02.TreeCalls': WHATEVER THE INPUT: true; the input reads as it did. -/
def treeCallsSpec : ChangeSpec := { name := "treeCalls", fn := fun _ => fun
  | [d1, d2] => { results := [.lit (.bool true)], args := [d1, d2] }
  | _ => none }
def treeCallsRow : OpenClaim := { program := "ytnmddeplchideaa", sum := "1fd24ec2d52353de747f4c7ded92f5544cf9361afe5a32cdca53fc050871ed1d", func := "dispatcher/dispatcherlaw02.TreeCalls", spec := "treeCalls", plainKeys := false, apart := false }
def TreeCallsSaid : Prop := treeCallsRow.holds Try.pinned (OpenSpec.ofChange treeCallsSpec)

/-- ITS FALSE NEIGHBOUR: 'it returns false'. Refute it at one input. -/
def treeCallsWrong : ChangeSpec := { name := "treeCalls", fn := fun _ => fun
  | [d1, d2] => { results := [.lit (.bool false)], args := [d1, d2] }
  | _ => none }
def TreeCallsWrongFalsely : Prop := treeCallsRow.holds Try.pinned (OpenSpec.ofChange treeCallsWrong)

/-- 'dispatcherlaw09.BoundDecides': WHATEVER THE INPUT: true; the input reads as it did. -/
def boundDecidesSpec : ChangeSpec := { name := "boundDecides", fn := fun _ => fun
  | [d] => { results := [.lit (.bool true)], args := [d] }
  | _ => none }
def boundDecidesRow : OpenClaim := { program := "ytnmddeplchideaa", sum := "1fd24ec2d52353de747f4c7ded92f5544cf9361afe5a32cdca53fc050871ed1d", func := "dispatcher/dispatcherlaw09.BoundDecides", spec := "boundDecides", recurses := true, loops := true, plainKeys := false, apart := false }
def BoundDecidesSaid : Prop := boundDecidesRow.holds Try.pinned (OpenSpec.ofChange boundDecidesSpec)

/-- ITS FALSE NEIGHBOUR: 'it returns false'. Refute it at one input. -/
def boundDecidesWrong : ChangeSpec := { name := "boundDecides", fn := fun _ => fun
  | [d] => { results := [.lit (.bool false)], args := [d] }
  | _ => none }
def BoundDecidesWrongFalsely : Prop := boundDecidesRow.holds Try.pinned (OpenSpec.ofChange boundDecidesWrong)

/-- 'dispatcherlaw27.VerdictKinds': WHATEVER THE INPUT: true; the input reads as it did. -/
def verdictKindsSpec : ChangeSpec := { name := "verdictKinds", fn := fun _ => fun
  | [d1, d2] => { results := [.lit (.bool true)], args := [d1, d2] }
  | _ => none }
def verdictKindsRow : OpenClaim := { program := "ytnmddeplchideaa", sum := "1fd24ec2d52353de747f4c7ded92f5544cf9361afe5a32cdca53fc050871ed1d", func := "dispatcher/dispatcherlaw27.VerdictKinds", spec := "verdictKinds", unfollowed := true, recurses := true, plainKeys := false, apart := false }
def VerdictKindsSaid : Prop := verdictKindsRow.holds Try.pinned (OpenSpec.ofChange verdictKindsSpec)

/-- ITS FALSE NEIGHBOUR: 'it returns false'. Refute it at one input. -/
def verdictKindsWrong : ChangeSpec := { name := "verdictKinds", fn := fun _ => fun
  | [d1, d2] => { results := [.lit (.bool false)], args := [d1, d2] }
  | _ => none }
def VerdictKindsWrongFalsely : Prop := verdictKindsRow.holds Try.pinned (OpenSpec.ofChange verdictKindsWrong)

/-- 'dispatcherlaw24.PathNil': WHATEVER THE INPUT: true; the input reads as it did. -/
def pathNilSpec : ChangeSpec := { name := "pathNil", fn := fun _ => fun
  | [d1, d2] => { results := [.lit (.bool true)], args := [d1, d2] }
  | _ => none }
def pathNilRow : OpenClaim := { program := "ytnmddeplchideaa", sum := "1fd24ec2d52353de747f4c7ded92f5544cf9361afe5a32cdca53fc050871ed1d", func := "dispatcher/dispatcherlaw24.PathNil", spec := "pathNil", unfollowed := true, recurses := true, plainKeys := false, apart := false }
def PathNilSaid : Prop := pathNilRow.holds Try.pinned (OpenSpec.ofChange pathNilSpec)

/-- ITS FALSE NEIGHBOUR: 'it returns false'. Refute it at one input. -/
def pathNilWrong : ChangeSpec := { name := "pathNil", fn := fun _ => fun
  | [d1, d2] => { results := [.lit (.bool false)], args := [d1, d2] }
  | _ => none }
def PathNilWrongFalsely : Prop := pathNilRow.holds Try.pinned (OpenSpec.ofChange pathNilWrong)

/-- 'dispatcherlaw01.ScanTexts': WHATEVER THE INPUT: true; the input reads as it did. -/
def scanTextsSpec : ChangeSpec := { name := "scanTexts", fn := fun _ => fun
  | [d] => { results := [.lit (.bool true)], args := [d] }
  | _ => none }
def scanTextsRow : OpenClaim := { program := "ytnmddeplchideaa", sum := "1fd24ec2d52353de747f4c7ded92f5544cf9361afe5a32cdca53fc050871ed1d", func := "dispatcher/dispatcherlaw01.ScanTexts", spec := "scanTexts", inPlace := ["internal/abi.NoEscape"], plainKeys := false, apart := false }
def ScanTextsSaid : Prop := scanTextsRow.holds Try.pinned (OpenSpec.ofChange scanTextsSpec)

/-- ITS FALSE NEIGHBOUR: 'it returns false'. Refute it at one input. -/
def scanTextsWrong : ChangeSpec := { name := "scanTexts", fn := fun _ => fun
  | [d] => { results := [.lit (.bool false)], args := [d] }
  | _ => none }
def ScanTextsWrongFalsely : Prop := scanTextsRow.holds Try.pinned (OpenSpec.ofChange scanTextsWrong)

/- THE SECOND FORM. 'bulk': how many values and letters a reading holds, each counted each time it is reached (what is shared counts as often as it is met; a slice's spare places count too). A statement '..UptoSaid' is the law's where the arguments, and the package variables that the reading takes, are together of bulk at most 1048576: NARROWER than '..Said'. Prove '..Said' where nothing that the law and all that it calls make is longer than what came in: it says more and counts as full. Else prove '..UptoSaid'. A law counts once. -/
mutual
def uptoBulk {H : Type} : DataW H → Nat
  | .lit (.string bytes) => bytes.length + 1
  | .lit _ => 1
  | .nil => 1
  | .ptr d => uptoBulk d + 1
  | .slice elems spare => uptoBulkAll elems + uptoBulkAll spare + 1
  | .agg parts => uptoBulkAll parts + 1
  | .iface _ d => uptoBulk d + 1
  | .map entries => uptoBulkEntries entries + 1
  | .held _ => 1
def uptoBulkAll {H : Type} : List (DataW H) → Nat
  | [] => 0
  | d :: r => uptoBulk d + uptoBulkAll r
def uptoBulkEntries {H : Type} : List (Lit × DataW H) → Nat
  | [] => 0
  | x :: r => uptoBulkEntry x + uptoBulkEntries r
def uptoBulkEntry {H : Type} : Lit × DataW H → Nat
  | (.string bytes, d) => bytes.length + uptoBulk d + 1
  | (_, d) => uptoBulk d + 1
 end
def uptoSmall : (H : Type) → List (DataW H) → Bool := fun _ ds => decide (uptoBulkAll ds ≤ 1048576)
def OpenSpec.upto (s : _root_.Go.ChangeSpec) : _root_.Go.OpenSpec := { _root_.Go.OpenSpec.ofChange s with cond := some uptoSmall }

/-- 'dispatcherlaw02.TreeCalls', WHERE WHAT IT READS IS OF BULK AT MOST 1048576: true; the input reads as it did. -/
def treeCallsUptoRow : OpenClaim := { program := "ytnmddeplchideaa", sum := "1fd24ec2d52353de747f4c7ded92f5544cf9361afe5a32cdca53fc050871ed1d", func := "dispatcher/dispatcherlaw02.TreeCalls", spec := "treeCalls", plainKeys := false, apart := false, narrowed := true }
def TreeCallsUptoSaid : Prop := treeCallsUptoRow.holds Try.pinned (OpenSpec.upto treeCallsSpec)

/-- 'dispatcherlaw09.BoundDecides', WHERE WHAT IT READS IS OF BULK AT MOST 1048576: true; the input reads as it did. -/
def boundDecidesUptoRow : OpenClaim := { program := "ytnmddeplchideaa", sum := "1fd24ec2d52353de747f4c7ded92f5544cf9361afe5a32cdca53fc050871ed1d", func := "dispatcher/dispatcherlaw09.BoundDecides", spec := "boundDecides", recurses := true, loops := true, plainKeys := false, apart := false, narrowed := true }
def BoundDecidesUptoSaid : Prop := boundDecidesUptoRow.holds Try.pinned (OpenSpec.upto boundDecidesSpec)

/-- 'dispatcherlaw27.VerdictKinds', WHERE WHAT IT READS IS OF BULK AT MOST 1048576: true; the input reads as it did. -/
def verdictKindsUptoRow : OpenClaim := { program := "ytnmddeplchideaa", sum := "1fd24ec2d52353de747f4c7ded92f5544cf9361afe5a32cdca53fc050871ed1d", func := "dispatcher/dispatcherlaw27.VerdictKinds", spec := "verdictKinds", unfollowed := true, recurses := true, plainKeys := false, apart := false, narrowed := true }
def VerdictKindsUptoSaid : Prop := verdictKindsUptoRow.holds Try.pinned (OpenSpec.upto verdictKindsSpec)

/-- 'dispatcherlaw24.PathNil', WHERE WHAT IT READS IS OF BULK AT MOST 1048576: true; the input reads as it did. -/
def pathNilUptoRow : OpenClaim := { program := "ytnmddeplchideaa", sum := "1fd24ec2d52353de747f4c7ded92f5544cf9361afe5a32cdca53fc050871ed1d", func := "dispatcher/dispatcherlaw24.PathNil", spec := "pathNil", unfollowed := true, recurses := true, plainKeys := false, apart := false, narrowed := true }
def PathNilUptoSaid : Prop := pathNilUptoRow.holds Try.pinned (OpenSpec.upto pathNilSpec)

/-- 'dispatcherlaw01.ScanTexts', WHERE WHAT IT READS IS OF BULK AT MOST 1048576: true; the input reads as it did. -/
def scanTextsUptoRow : OpenClaim := { program := "ytnmddeplchideaa", sum := "1fd24ec2d52353de747f4c7ded92f5544cf9361afe5a32cdca53fc050871ed1d", func := "dispatcher/dispatcherlaw01.ScanTexts", spec := "scanTexts", inPlace := ["internal/abi.NoEscape"], plainKeys := false, apart := false, narrowed := true }
def ScanTextsUptoSaid : Prop := scanTextsUptoRow.holds Try.pinned (OpenSpec.upto scanTextsSpec)

end Rows
end Go.Proofs.Ytnmddeplchideaa
