/- Rows of points, and a row's cells. -/
import Derived.Test.YtiojpokfcejhcaaDoorRows
import Derived.Test.YtiojpokfcejhcaaDoorPathE
namespace Go.Proofs.YtiojpokfcejhcaaDoor
open Go Go.RowKit
set_option linter.unusedVariables false
set_option linter.unusedSimpArgs false
namespace Pth
def ptC (x : Lv) : List Value := [.int .i64 x.r, .int .i64 x.c, .slice x.A x.vs.length x.cap]
def ptCs (l : List Lv) : List Value := l.flatMap ptC
def ofCs (l : List Lv) : List Value := l.map fun x => .bool x.off
def atCs (l : List Lv) : List Value := l.map fun x => .int .i64 x.at_
theorem ptCs_app (a b : List Lv) : ptCs (a ++ b) = ptCs a ++ ptCs b := by simp [ptCs]
theorem ofCs_app (a b : List Lv) : ofCs (a ++ b) = ofCs a ++ ofCs b := by simp [ofCs]
theorem atCs_app (a b : List Lv) : atCs (a ++ b) = atCs a ++ atCs b := by simp [atCs]
theorem ptC_len (x : Lv) : (ptC x).length = 3 := rfl
theorem ptCs_cons (t : Lv) (l : List Lv) : ptCs (t :: l) = ptC t ++ ptCs l := rfl
theorem ptCs_at : ∀ (l : List Lv) (i : Nat) (hi : i < l.length) (j : Nat), j < 3 → (ptCs l)[i * 3 + j]? = (ptC l[i])[j]?
  | t :: l, 0, _, j, hj => by
    rw [ptCs_cons, List.getElem?_append_left (by rw [ptC_len]; omega)]
    simp
  | t :: l, i + 1, hi, j, hj => by
    have e : (i + 1) * 3 + j = (ptC t).length + (i * 3 + j) := by rw [ptC_len]; omega
    rw [ptCs_cons, e, List.getElem?_append_right (by omega), Nat.add_sub_cancel_left]
    exact ptCs_at l i (by simpa using hi) j hj
/-- A row's cells, where it has an element. -/
theorem own_cell {w : World} {B size n : Nat} {e : TypeId} {A : Option Addr} {c m : Nat} {xs : List Value} (h : w.ownsRow B e size (.slice A m c) n xs) (hn : 0 < n) : ∃ g, A = some ⟨g, 0, none⟩ ∧ B ≤ g ∧ m = n ∧ (∃ cs, Blk w g e cs) ∧ (∀ k, w.frozen? ⟨g, k, none⟩ = false) ∧ n ≤ c ∧ ∀ k u, xs[k]? = some u → w.cell? ⟨g, k, none⟩ = some u := by
  rcases h.2 with ⟨_, h0⟩ | ⟨g, cap, cur, hv, hge, hh, hnc, _, hcs, htk⟩
  · omega
  · injection hv with h1 h2 h3
    subst h1
    subst h2
    subst h3
    have hB : Blk w g e cur := hh
    refine ⟨g, rfl, hge, rfl, ⟨cur, hB⟩, hB.frozen, hnc, fun k u hu => ?_⟩
    rw [← htk, List.getElem?_take] at hu
    split at hu
    · rw [hB.cell]
      simpa using hu
    · cases hu
end Pth
end Go.Proofs.YtiojpokfcejhcaaDoor
