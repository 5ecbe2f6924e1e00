/-
  NARROWER THAN 'FOR EVERY INPUT', by the rows' own cells (each row's printed sentence says how): FenceNil: laid · InterNil: laid.
  DERIVED. THE GIVEN ROWS OF THIS SEAT. 2 by the template 'for every input the law returns true; each argument reads behind the call as it read before'; 0 by the template 'total and deterministic' (their statements: YtphckmabaoahaabGreatDoorTotals.lean).
  GIVEN WITH THE SEED: the statements are not yours to turn. If you find one false, say at which input.
  Laid BY PROGRAM, IN A SANDBOX (cutbox-rows.mjs): the forced cells as the released guide's own fill.sh prints them over the translation 51ee174bee1cec6b… (all of the seat's roots in one cut). By AI agents, Wed Nov 11 2026. No macro, syntax, notation, axiom, sorry.
-/
import Derived.Test.YtphckmabaoahaabGreatDoorChecked
import GoSem.Claim
import GoSem.ClaimJoined
import GoSem.ClaimMapViews
import Derived.JoinedTies
import Derived.KernelRfl
namespace Go.Proofs.YtphckmabaoahaabGreatDoor
/- THE CELL 'sum', in the pinned program and in every row, IS THE sha256 OF THE DUMP (.gsa) THAT YtphckmabaoahaabGreatDoorProg.lean LOADS. Nothing in Lean hashes anything: it is a label: what it is worth is what the hold of that sum in a sandbox is worth. -/
noncomputable def Tryz.pinned : Pinned := { name := "ytphckmabaoahaabgreatdoor", sum := "51ee174bee1cec6bc45653a2bfc5ba60e905b61d8ce92a9a36cea8431b22bbda", checked := Tryz.checked }
namespace Rows
def none {H : Type} : Left H := { results := [], args := [] }

/- WHAT THE LISTED PACKAGE-LEVEL VARIABLES READ AS WHEN THE CALL BEGINS. Each datum BY PROGRAM (the guide's laid-datum.mjs) off the statement by which the dump's own 'gosem.cut.vars' lays the variable. In a bare row this is a premise. The card (YtphckmabaoahaabGreatDoorCards.lean) ties it to the program's text. -/
def laid_dispatcher_inter_ends {H : Type} : DataW H := .agg [.lit (.int .u8 0), .lit (.int .u8 0), .lit (.int .u8 1), .lit (.int .u8 2), .lit (.int .u8 3)]

/-- 'dispatcherlaw21.FenceNil': WHATEVER THE INPUT: true; the input reads as it did. -/
def fenceNilSpec : ChangeSpec := { name := "fenceNil", fn := fun _ => fun
  | [d] => { results := [.lit (.bool true)], args := [d] }
  | _ => none }
def fenceNilRow : OpenClaim := { program := "ytphckmabaoahaabgreatdoor", sum := "51ee174bee1cec6bc45653a2bfc5ba60e905b61d8ce92a9a36cea8431b22bbda", func := "dispatcher/dispatcherlaw21.FenceNil", spec := "fenceNil", inPlace := ["slices.overlaps[dispatcher/api.Choice]"], unfollowed := true, recurses := true, named := ["dispatcher/inter.ends"], plainKeys := false, apart := false, laid := [("dispatcher/inter.ends", laid_dispatcher_inter_ends)] }
def FenceNilSaid : Prop := fenceNilRow.holds Tryz.pinned (OpenSpec.ofChange fenceNilSpec)

/-- ITS FALSE NEIGHBOUR: 'it returns false'. Refute it at one input. -/
def fenceNilWrong : ChangeSpec := { name := "fenceNil", fn := fun _ => fun
  | [d] => { results := [.lit (.bool false)], args := [d] }
  | _ => none }
def FenceNilWrongFalsely : Prop := fenceNilRow.holds Tryz.pinned (OpenSpec.ofChange fenceNilWrong)

/-- 'dispatcherlaw20.InterNil': WHATEVER THE INPUT: true; the input reads as it did. -/
def interNilSpec : ChangeSpec := { name := "interNil", fn := fun _ => fun
  | [d] => { results := [.lit (.bool true)], args := [d] }
  | _ => none }
def interNilRow : OpenClaim := { program := "ytphckmabaoahaabgreatdoor", sum := "51ee174bee1cec6bc45653a2bfc5ba60e905b61d8ce92a9a36cea8431b22bbda", func := "dispatcher/dispatcherlaw20.InterNil", spec := "interNil", inPlace := ["slices.overlaps[dispatcher/api.Choice]"], unfollowed := true, recurses := true, named := ["dispatcher/inter.ends"], plainKeys := false, apart := false, laid := [("dispatcher/inter.ends", laid_dispatcher_inter_ends)] }
def InterNilSaid : Prop := interNilRow.holds Tryz.pinned (OpenSpec.ofChange interNilSpec)

/-- ITS FALSE NEIGHBOUR: 'it returns false'. Refute it at one input. -/
def interNilWrong : ChangeSpec := { name := "interNil", fn := fun _ => fun
  | [d] => { results := [.lit (.bool false)], args := [d] }
  | _ => none }
def InterNilWrongFalsely : Prop := interNilRow.holds Tryz.pinned (OpenSpec.ofChange interNilWrong)

/- THE SECOND FORM. 'bulk': how many values and letters a reading holds, each counted each time it is reached (what is shared counts as often as it is met; a slice's spare places count too). A statement '..UptoSaid' is the law's where the arguments, and the package variables that the reading takes, are together of bulk at most 1048576: NARROWER than '..Said'. Prove '..Said' where nothing that the law and all that it calls make is longer than what came in: it says more and counts as full. Else prove '..UptoSaid'. A law counts once. -/
mutual
def uptoBulk {H : Type} : DataW H → Nat
  | .lit (.string bytes) => bytes.length + 1
  | .lit _ => 1
  | .nil => 1
  | .ptr d => uptoBulk d + 1
  | .slice elems spare => uptoBulkAll elems + uptoBulkAll spare + 1
  | .agg parts => uptoBulkAll parts + 1
  | .iface _ d => uptoBulk d + 1
  | .map entries => uptoBulkEntries entries + 1
  | .held _ => 1
def uptoBulkAll {H : Type} : List (DataW H) → Nat
  | [] => 0
  | d :: r => uptoBulk d + uptoBulkAll r
def uptoBulkEntries {H : Type} : List (Lit × DataW H) → Nat
  | [] => 0
  | x :: r => uptoBulkEntry x + uptoBulkEntries r
def uptoBulkEntry {H : Type} : Lit × DataW H → Nat
  | (.string bytes, d) => bytes.length + uptoBulk d + 1
  | (_, d) => uptoBulk d + 1
 end
def uptoSmall : (H : Type) → List (DataW H) → Bool := fun _ ds => decide (uptoBulkAll ds ≤ 1048576)
def OpenSpec.upto (s : _root_.Go.ChangeSpec) : _root_.Go.OpenSpec := { _root_.Go.OpenSpec.ofChange s with cond := some uptoSmall }

/-- 'dispatcherlaw21.FenceNil', WHERE WHAT IT READS IS OF BULK AT MOST 1048576: true; the input reads as it did. -/
def fenceNilUptoRow : OpenClaim := { program := "ytphckmabaoahaabgreatdoor", sum := "51ee174bee1cec6bc45653a2bfc5ba60e905b61d8ce92a9a36cea8431b22bbda", func := "dispatcher/dispatcherlaw21.FenceNil", spec := "fenceNil", inPlace := ["slices.overlaps[dispatcher/api.Choice]"], unfollowed := true, recurses := true, named := ["dispatcher/inter.ends"], plainKeys := false, apart := false, laid := [("dispatcher/inter.ends", laid_dispatcher_inter_ends)], narrowed := true }
def FenceNilUptoSaid : Prop := fenceNilUptoRow.holds Tryz.pinned (OpenSpec.upto fenceNilSpec)

/-- 'dispatcherlaw20.InterNil', WHERE WHAT IT READS IS OF BULK AT MOST 1048576: true; the input reads as it did. -/
def interNilUptoRow : OpenClaim := { program := "ytphckmabaoahaabgreatdoor", sum := "51ee174bee1cec6bc45653a2bfc5ba60e905b61d8ce92a9a36cea8431b22bbda", func := "dispatcher/dispatcherlaw20.InterNil", spec := "interNil", inPlace := ["slices.overlaps[dispatcher/api.Choice]"], unfollowed := true, recurses := true, named := ["dispatcher/inter.ends"], plainKeys := false, apart := false, laid := [("dispatcher/inter.ends", laid_dispatcher_inter_ends)], narrowed := true }
def InterNilUptoSaid : Prop := interNilUptoRow.holds Tryz.pinned (OpenSpec.upto interNilSpec)

end Rows
end Go.Proofs.YtphckmabaoahaabGreatDoor
