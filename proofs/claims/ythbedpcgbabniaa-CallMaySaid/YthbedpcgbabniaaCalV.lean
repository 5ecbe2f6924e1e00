/- Whether a call may be: the document. -/
import Derived.Test.YthbedpcgbabniaaRows
import Derived.Test.YthbedpcgbabniaaCalS
import Derived.Test.YthbedpcgbabniaaCalT
import Derived.Test.YthbedpcgbabniaaCalU
namespace Go.Proofs.Ythbedpcgbabniaa
open Go Go.RowKit Go.Lib Go.Proofs.Ythbedpcgbabniaa.Grp
set_option linter.unusedVariables false
set_option linter.unusedSimpArgs false
namespace Cal
theorem May_q (c : Cl) (ra : Option Addr) (rc : Nat) (key : ByteArray) (A : Option Addr) (gc : Nat) (l : List Int) (w : World) (hr : NRow w ra c.rq) (hl : c.rq.length ≤ 1000) (hg : NRow w A l) (hgl : l.length ≤ 1000) :
    Calls Try.prog 8 #[.agg (c.A ra rc), .agg #[.string key, .slice A l.length gc]] w fun e w' => e = .returned (.bool (decide (mayC c l))) ∧ Below w.heap.size w w' := by
  by_cases hsend : c.k = 1 ∨ c.k = 2 ∨ c.k = 3 ∨ c.k = 4 ∨ c.k = 5
  · exact mayB_send c ra rc key A gc l w (by unfold usesS; rw [if_pos hsend]) (by unfold usedL; rw [if_pos hsend]) (by unfold wildK; omega) hg hgl
  by_cases hrecv : c.k = 6 ∨ c.k = 7 ∨ c.k = 13 ∨ c.k = 14
  · exact mayB_recv c ra rc key A gc l w (by unfold usesS; rw [if_neg hsend]; rw [if_pos hrecv]) (by unfold usedL; rw [if_neg hsend]; rw [if_pos hrecv]) (by unfold wildK; omega) hg hgl
  by_cases hreqs : c.k = 8 ∨ c.k = 9 ∨ c.k = 10 ∨ c.k = 11 ∨ c.k = 12
  · exact mayB_reqs c hreqs ra rc key A gc l w (by unfold usesS; rw [if_neg hsend]; rw [if_neg hrecv]; rw [if_pos hreqs]) (by unfold usedL; rw [if_neg hsend]; rw [if_neg hrecv]; rw [if_pos hreqs]) hr hl hg hgl
  by_cases hcomm : c.k = 15 ∨ c.k = 20 ∨ c.k = 22
  · exact mayB_comm c ra rc key A gc l w (by unfold usesS; rw [if_neg hsend]; rw [if_neg hrecv]; rw [if_neg hreqs]; rw [if_pos hcomm]) (by unfold usedL; rw [if_neg hsend]; rw [if_neg hrecv]; rw [if_neg hreqs]; rw [if_pos hcomm]) (by unfold wildK; omega) hg hgl
  by_cases hroot : c.k = 16 ∨ c.k = 19
  · exact mayB_root c ra rc key A gc l w (by unfold usesS; rw [if_neg hsend]; rw [if_neg hrecv]; rw [if_neg hreqs]; rw [if_neg hcomm]; rw [if_pos hroot]) (by unfold usedL; rw [if_neg hsend]; rw [if_neg hrecv]; rw [if_neg hreqs]; rw [if_neg hcomm]; rw [if_pos hroot]) (by unfold wildK; omega) hg hgl
  by_cases hred : c.k = 17
  · exact mayB_red c ra rc key A gc l w (by unfold usesS; rw [if_neg hsend]; rw [if_neg hrecv]; rw [if_neg hreqs]; rw [if_neg hcomm]; rw [if_neg hroot]; rw [if_pos hred]) (by unfold usedL; rw [if_neg hsend]; rw [if_neg hrecv]; rw [if_neg hreqs]; rw [if_neg hcomm]; rw [if_neg hroot]; rw [if_pos hred]) (by unfold wildK; omega) hg hgl
  by_cases hall : c.k = 18
  · exact mayB_all c ra rc key A gc l w (by unfold usesS; rw [if_neg hsend]; rw [if_neg hrecv]; rw [if_neg hreqs]; rw [if_neg hcomm]; rw [if_neg hroot]; rw [if_neg hred]; rw [if_pos hall]) (by unfold usedL; rw [if_neg hsend]; rw [if_neg hrecv]; rw [if_neg hreqs]; rw [if_neg hcomm]; rw [if_neg hroot]; rw [if_neg hred]; rw [if_pos hall]) (by unfold wildK; omega) hg hgl
  by_cases hsplit : c.k = 21
  · exact mayB_split c ra rc key A gc l w (by unfold usesS; rw [if_neg hsend]; rw [if_neg hrecv]; rw [if_neg hreqs]; rw [if_neg hcomm]; rw [if_neg hroot]; rw [if_neg hred]; rw [if_neg hall]; rw [if_pos hsplit]) (by unfold usedL; rw [if_neg hsend]; rw [if_neg hrecv]; rw [if_neg hreqs]; rw [if_neg hcomm]; rw [if_neg hroot]; rw [if_neg hred]; rw [if_neg hall]; rw [if_pos hsplit]) (by unfold wildK; omega) hg hgl
  exact mayB_none c ra rc key A gc l w (by unfold usesS; rw [if_neg hsend]; rw [if_neg hrecv]; rw [if_neg hreqs]; rw [if_neg hcomm]; rw [if_neg hroot]; rw [if_neg hred]; rw [if_neg hall]; rw [if_neg hsplit]) (by unfold usedL; rw [if_neg hsend]; rw [if_neg hrecv]; rw [if_neg hreqs]; rw [if_neg hcomm]; rw [if_neg hroot]; rw [if_neg hred]; rw [if_neg hall]; rw [if_neg hsplit])
end Cal
end Go.Proofs.Ythbedpcgbabniaa
