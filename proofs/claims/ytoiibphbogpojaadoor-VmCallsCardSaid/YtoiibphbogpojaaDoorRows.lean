/-
  NARROWER THAN 'FOR EVERY INPUT', by the rows' own cells (each row's printed sentence says how): VmOne: laid · VmCalls: laid.
  DERIVED. THE GIVEN ROWS OF THIS SEAT. 2 by the template 'for every input the law returns true; each argument reads behind the call as it read before'; 0 by the template 'total and deterministic' (their statements: YtoiibphbogpojaaDoorTotals.lean).
  GIVEN WITH THE SEED: the statements are not yours to turn. If you find one false, say at which input.
  Laid BY PROGRAM, IN A SANDBOX (cutbox-rows.mjs): the forced cells as the released guide's own fill.sh prints them over the translation c887e9a2ab51f5b1… (all of the seat's roots in one cut). By AI agents, Wed Nov 11 2026. No macro, syntax, notation, axiom, sorry.
-/
import Derived.Test.YtoiibphbogpojaaDoorChecked
import GoSem.Claim
import GoSem.ClaimJoined
import GoSem.ClaimMapViews
import Derived.JoinedTies
import Derived.KernelRfl
namespace Go.Proofs.YtoiibphbogpojaaDoor
/- THE CELL 'sum', in the pinned program and in every row, IS THE sha256 OF THE DUMP (.gsa) THAT YtoiibphbogpojaaDoorProg.lean LOADS. Nothing in Lean hashes anything: it is a label: what it is worth is what the hold of that sum in a sandbox is worth. -/
noncomputable def Tryd.pinned : Pinned := { name := "ytoiibphbogpojaadoor", sum := "c887e9a2ab51f5b1b3c772aa3d89da7ca2d89580eb882d0c3d6703195ea03857", checked := Tryd.checked }
namespace Rows
def none {H : Type} : Left H := { results := [], args := [] }

/- WHAT THE LISTED PACKAGE-LEVEL VARIABLES READ AS WHEN THE CALL BEGINS. Each datum BY PROGRAM (the guide's laid-datum.mjs) off the statement by which the dump's own 'gosem.cut.vars' lays the variable. In a bare row this is a premise. The card (YtoiibphbogpojaaDoorCards.lean) ties it to the program's text. -/
def laid_dispatcher_code_operations {H : Type} : DataW H := .agg [.agg [.lit (.string []), .lit (.int .u8 0), .lit (.int .i64 0), .lit (.int .i64 0)], .agg [.lit (.string [110, 117, 109]), .lit (.int .u8 1), .lit (.int .i64 0), .lit (.int .i64 1)], .agg [.lit (.string [103, 101, 116]), .lit (.int .u8 2), .lit (.int .i64 0), .lit (.int .i64 1)], .agg [.lit (.string [115, 101, 116]), .lit (.int .u8 2), .lit (.int .i64 1), .lit (.int .i64 0)], .agg [.lit (.string [97, 116]), .lit (.int .u8 3), .lit (.int .i64 1), .lit (.int .i64 1)], .agg [.lit (.string [112, 117, 116]), .lit (.int .u8 3), .lit (.int .i64 2), .lit (.int .i64 0)], .agg [.lit (.string [114, 111, 119]), .lit (.int .u8 0), .lit (.int .i64 1), .lit (.int .i64 1)], .agg [.lit (.string [119, 111, 114, 100]), .lit (.int .u8 4), .lit (.int .i64 0), .lit (.int .i64 1)], .agg [.lit (.string [110, 101, 103]), .lit (.int .u8 0), .lit (.int .i64 1), .lit (.int .i64 1)], .agg [.lit (.string [110, 111, 116]), .lit (.int .u8 0), .lit (.int .i64 1), .lit (.int .i64 1)], .agg [.lit (.string [109, 117, 108]), .lit (.int .u8 0), .lit (.int .i64 2), .lit (.int .i64 1)], .agg [.lit (.string [100, 105, 118]), .lit (.int .u8 0), .lit (.int .i64 2), .lit (.int .i64 1)], .agg [.lit (.string [109, 111, 100]), .lit (.int .u8 0), .lit (.int .i64 2), .lit (.int .i64 1)], .agg [.lit (.string [97, 100, 100]), .lit (.int .u8 0), .lit (.int .i64 2), .lit (.int .i64 1)], .agg [.lit (.string [115, 117, 98]), .lit (.int .u8 0), .lit (.int .i64 2), .lit (.int .i64 1)], .agg [.lit (.string [108, 101, 115, 115]), .lit (.int .u8 0), .lit (.int .i64 2), .lit (.int .i64 1)], .agg [.lit (.string [108, 101, 115, 115, 101, 113]), .lit (.int .u8 0), .lit (.int .i64 2), .lit (.int .i64 1)], .agg [.lit (.string [109, 111, 114, 101]), .lit (.int .u8 0), .lit (.int .i64 2), .lit (.int .i64 1)], .agg [.lit (.string [109, 111, 114, 101, 101, 113]), .lit (.int .u8 0), .lit (.int .i64 2), .lit (.int .i64 1)], .agg [.lit (.string [115, 97, 109, 101]), .lit (.int .u8 0), .lit (.int .i64 2), .lit (.int .i64 1)], .agg [.lit (.string [111, 116, 104, 101, 114]), .lit (.int .u8 0), .lit (.int .i64 2), .lit (.int .i64 1)], .agg [.lit (.string [116, 114, 117, 116, 104]), .lit (.int .u8 0), .lit (.int .i64 1), .lit (.int .i64 1)], .agg [.lit (.string [106, 117, 109, 112]), .lit (.int .u8 5), .lit (.int .i64 0), .lit (.int .i64 0)], .agg [.lit (.string [122, 101, 114, 111]), .lit (.int .u8 5), .lit (.int .i64 1), .lit (.int .i64 0)], .agg [.lit (.string [101, 108, 115, 101]), .lit (.int .u8 5), .lit (.int .i64 1), .lit (.int .i64 0)], .agg [.lit (.string [112, 111, 112]), .lit (.int .u8 0), .lit (.int .i64 1), .lit (.int .i64 0)], .agg [.lit (.string [100, 117, 112]), .lit (.int .u8 0), .lit (.int .i64 1), .lit (.int .i64 2)], .agg [.lit (.string [97, 115, 115, 101, 114, 116]), .lit (.int .u8 0), .lit (.int .i64 1), .lit (.int .i64 0)], .agg [.lit (.string [99, 97, 108, 108]), .lit (.int .u8 6), .lit (.int .i64 0), .lit (.int .i64 0)], .agg [.lit (.string [115, 116, 111, 112]), .lit (.int .u8 0), .lit (.int .i64 0), .lit (.int .i64 0)]]

/-- 'dispatcherlaw07.VmOne': WHATEVER THE INPUT: true; the input reads as it did. -/
def vmOneSpec : ChangeSpec := { name := "vmOne", fn := fun _ => fun
  | [d1, d2, d3] => { results := [.lit (.bool true)], args := [d1, d2, d3] }
  | _ => none }
def vmOneRow : OpenClaim := { program := "ytoiibphbogpojaadoor", sum := "c887e9a2ab51f5b1b3c772aa3d89da7ca2d89580eb882d0c3d6703195ea03857", func := "dispatcher/dispatcherlaw07.VmOne", spec := "vmOne", unfollowed := true, recurses := true, named := ["dispatcher/code.operations"], apart := false, laid := [("dispatcher/code.operations", laid_dispatcher_code_operations)] }
def VmOneSaid : Prop := vmOneRow.holds Tryd.pinned (OpenSpec.ofChange vmOneSpec)

/-- ITS FALSE NEIGHBOUR: 'it returns false'. Refute it at one input. -/
def vmOneWrong : ChangeSpec := { name := "vmOne", fn := fun _ => fun
  | [d1, d2, d3] => { results := [.lit (.bool false)], args := [d1, d2, d3] }
  | _ => none }
def VmOneWrongFalsely : Prop := vmOneRow.holds Tryd.pinned (OpenSpec.ofChange vmOneWrong)

/-- 'dispatcherlaw07.VmCalls': WHATEVER THE INPUT: true; the input reads as it did. -/
def vmCallsSpec : ChangeSpec := { name := "vmCalls", fn := fun _ => fun
  | [d1, d2, d3] => { results := [.lit (.bool true)], args := [d1, d2, d3] }
  | _ => none }
def vmCallsRow : OpenClaim := { program := "ytoiibphbogpojaadoor", sum := "c887e9a2ab51f5b1b3c772aa3d89da7ca2d89580eb882d0c3d6703195ea03857", func := "dispatcher/dispatcherlaw07.VmCalls", spec := "vmCalls", unfollowed := true, recurses := true, named := ["dispatcher/code.operations"], apart := false, laid := [("dispatcher/code.operations", laid_dispatcher_code_operations)] }
def VmCallsSaid : Prop := vmCallsRow.holds Tryd.pinned (OpenSpec.ofChange vmCallsSpec)

/-- ITS FALSE NEIGHBOUR: 'it returns false'. Refute it at one input. -/
def vmCallsWrong : ChangeSpec := { name := "vmCalls", fn := fun _ => fun
  | [d1, d2, d3] => { results := [.lit (.bool false)], args := [d1, d2, d3] }
  | _ => none }
def VmCallsWrongFalsely : Prop := vmCallsRow.holds Tryd.pinned (OpenSpec.ofChange vmCallsWrong)

/- THE SECOND FORM. 'bulk': how many values and letters a reading holds, each counted each time it is reached (what is shared counts as often as it is met; a slice's spare places count too). A statement '..UptoSaid' is the law's where the arguments, and the package variables that the reading takes, are together of bulk at most 1048576: NARROWER than '..Said'. Prove '..Said' where nothing that the law and all that it calls make is longer than what came in: it says more and counts as full. Else prove '..UptoSaid'. A law counts once. -/
mutual
def uptoBulk {H : Type} : DataW H → Nat
  | .lit (.string bytes) => bytes.length + 1
  | .lit _ => 1
  | .nil => 1
  | .ptr d => uptoBulk d + 1
  | .slice elems spare => uptoBulkAll elems + uptoBulkAll spare + 1
  | .agg parts => uptoBulkAll parts + 1
  | .iface _ d => uptoBulk d + 1
  | .map entries => uptoBulkEntries entries + 1
  | .held _ => 1
def uptoBulkAll {H : Type} : List (DataW H) → Nat
  | [] => 0
  | d :: r => uptoBulk d + uptoBulkAll r
def uptoBulkEntries {H : Type} : List (Lit × DataW H) → Nat
  | [] => 0
  | x :: r => uptoBulkEntry x + uptoBulkEntries r
def uptoBulkEntry {H : Type} : Lit × DataW H → Nat
  | (.string bytes, d) => bytes.length + uptoBulk d + 1
  | (_, d) => uptoBulk d + 1
 end
def uptoSmall : (H : Type) → List (DataW H) → Bool := fun _ ds => decide (uptoBulkAll ds ≤ 1048576)
def OpenSpec.upto (s : _root_.Go.ChangeSpec) : _root_.Go.OpenSpec := { _root_.Go.OpenSpec.ofChange s with cond := some uptoSmall }

/-- 'dispatcherlaw07.VmOne', WHERE WHAT IT READS IS OF BULK AT MOST 1048576: true; the input reads as it did. -/
def vmOneUptoRow : OpenClaim := { program := "ytoiibphbogpojaadoor", sum := "c887e9a2ab51f5b1b3c772aa3d89da7ca2d89580eb882d0c3d6703195ea03857", func := "dispatcher/dispatcherlaw07.VmOne", spec := "vmOne", unfollowed := true, recurses := true, named := ["dispatcher/code.operations"], apart := false, laid := [("dispatcher/code.operations", laid_dispatcher_code_operations)], narrowed := true }
def VmOneUptoSaid : Prop := vmOneUptoRow.holds Tryd.pinned (OpenSpec.upto vmOneSpec)

/-- 'dispatcherlaw07.VmCalls', WHERE WHAT IT READS IS OF BULK AT MOST 1048576: true; the input reads as it did. -/
def vmCallsUptoRow : OpenClaim := { program := "ytoiibphbogpojaadoor", sum := "c887e9a2ab51f5b1b3c772aa3d89da7ca2d89580eb882d0c3d6703195ea03857", func := "dispatcher/dispatcherlaw07.VmCalls", spec := "vmCalls", unfollowed := true, recurses := true, named := ["dispatcher/code.operations"], apart := false, laid := [("dispatcher/code.operations", laid_dispatcher_code_operations)], narrowed := true }
def VmCallsUptoSaid : Prop := vmCallsUptoRow.holds Tryd.pinned (OpenSpec.upto vmCallsSpec)

end Rows
end Go.Proofs.YtoiibphbogpojaaDoor
