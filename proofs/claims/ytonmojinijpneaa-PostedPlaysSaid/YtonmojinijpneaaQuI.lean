/- What is ahead of a message: the program. -/
import Derived.Test.YtonmojinijpneaaRows
import Derived.Test.YtonmojinijpneaaQuH
import Derived.Test.YtonmojinijpneaaGround
import Derived.Deep.CutRange
namespace Go.Proofs.Ytonmojinijpneaa
open Go Go.RowKit Go.Lib
set_option linter.unusedVariables false
set_option linter.unusedSimpArgs false
namespace Qu
theorem own_wideB {w : World} {B B' size n : Nat} {e : TypeId} {v : Value} {xs : List Value} (h : w.ownsRow B e size v n xs) (hb : B' ≤ B) : w.ownsRow B' e size v n xs := by
  refine ⟨h.1, h.2.imp id ?_⟩
  rintro ⟨g, cap, cur, e, hge, r⟩
  exact ⟨g, cap, cur, e, Nat.le_trans hb hge, r⟩
theorem aheadL_row {l : List Msg} {v : Who} {i : Nat} {m : Msg} (hp : plc l v = some i) (hm : l[i]? = some m) : aheadL l v = untaken ((rowsOf l m.ch).take (rowsOf (l.take i) m.ch).length) := by
  have hg : l.getD i m0 = m := by rw [List.getD_eq_getElem?_getD, hm]; rfl
  unfold aheadL
  rw [hp, (row_at hm).2, untaken_row]
  simp only
  rw [hg]
end Qu
end Go.Proofs.Ytonmojinijpneaa
