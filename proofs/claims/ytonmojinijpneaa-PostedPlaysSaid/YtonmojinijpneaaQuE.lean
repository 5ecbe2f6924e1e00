/- The message of a call. -/
import Derived.Test.YtonmojinijpneaaRows
import Derived.Test.YtonmojinijpneaaQuD
namespace Go.Proofs.Ytonmojinijpneaa
open Go Go.RowKit Go.Lib
set_option linter.unusedVariables false
set_option linter.unusedSimpArgs false
namespace Qu
theorem QSt.drew {w : World} {q : Nat} {L : QL} {l : List Msg} (h : QSt w q L l) : QSt w.drew q L l := h.below (Below.refl _ _).drew
set_option maxRecDepth 100000 in
theorem run_field0 (a : Option Addr) (n c : Nat) (f : Int) (w : World) : (Instr.field 103 (.agg #[.slice a n c, .int .i64 f]) 0).run Try.prog w = .ok (.slice a n c) w := by
  have u1 := Try.underlying45
  have a1 := Try.isAgg45
  have z1 := Try.sizeOf45
  simp [Instr.field, run_underlying Try.underlying103, part, asAgg, Result.andThen, a1]
  try go_simp
/-- What is told of a call. -/
theorem plc_row {w : World} {q : Nat} {L : QL} {l : List Msg} (h : QSt w q L l) {v : Who} {i : Nat} (hp : plc l v = some i) :
    ∃ (m : Msg) (x : CRow), l[i]? = some m ∧ m.who = v ∧ (m.ch, x) ∈ L.cl ∧ plcR l v = some ⟨m.ch, (rowsOf (l.take i) m.ch).length⟩ ∧ (rowsOf l m.ch)[(rowsOf (l.take i) m.ch).length]? = some m ∧ findL l v = some m ∧
      SMap.look (L.cl.map fun p => (p.1, rowV (rowsOf l p.1) p.2)) m.ch = some (rowV (rowsOf l m.ch) x) ∧ (rowsOf l m.ch).length ≤ x.cap := by
  obtain ⟨m, hm, hw⟩ := plc_some hp
  have hg : l.getD i m0 = m := by rw [List.getD_eq_getElem?_getD, hm]; rfl
  have hr : rowsOf l m.ch ≠ [] := rowsOf_ne.2 ⟨m, List.mem_of_getElem? hm, rfl⟩
  obtain ⟨x, hx, he⟩ := h.row hr
  have h0 : 0 < (rowsOf l m.ch).length := List.length_pos_iff.2 hr
  obtain ⟨_, _, _, _, _, _, hc, _⟩ := own_cell (h.crow _ hx) h0
  exact ⟨m, x, hm, hw, hx, by unfold plcR; rw [hp, Option.map_some, hg], (row_at hm).1, by unfold findL; rw [hp, Option.map_some, hg], he, hc⟩
end Qu
end Go.Proofs.Ytonmojinijpneaa
