/- Steps that the call owns, as a row of steps; the reading of their text where it is known. -/
import Derived.Test.YtiojpokfcejhcaaDoorRows
import Derived.Test.YtiojpokfcejhcaaDoorPathH
import Derived.Test.YtiojpokfcejhcaaDoorPathTx
namespace Go.Proofs.YtiojpokfcejhcaaDoor
open Go Go.RowKit Go.Proofs.YtiojpokfcejhcaaDoor.PathTextsW
set_option linter.unusedVariables false
set_option linter.unusedSimpArgs false
namespace Pth
theorem spC_len (x : Sp) : (spC x).length = 8 := rfl
theorem spCs_cons (t : Sp) (l : List Sp) : spCs (t :: l) = spC t ++ spCs l := rfl
theorem spCs_at : ∀ (l : List Sp) (i : Nat) (hi : i < l.length) (j : Nat), j < 8 → (spCs l)[i * 8 + j]? = (spC l[i])[j]?
  | t :: l, 0, _, j, hj => by
    rw [spCs_cons, List.getElem?_append_left (by rw [spC_len]; omega)]
    simp
  | t :: l, i + 1, hi, j, hj => by
    have e : (i + 1) * 8 + j = (spC t).length + (i * 8 + j) := by rw [spC_len]; omega
    rw [spCs_cons, e, List.getElem?_append_right (by omega), Nat.add_sub_cancel_left]
    exact spCs_at l i (by simpa using hi) j hj
def stOf (x : Sp) : St := ⟨x.off, x.r, x.c, x.ch.r, x.ch.c, x.ch.f, x.ch.s, x.ch.v⟩
instance : Inhabited Sp := ⟨⟨false, 0, 0, ⟨0, 0, 0, 0, 0⟩⟩⟩
theorem st_row {w : World} {B : Nat} {v : Value} {l : List Sp} (h : w.ownsRow B 49 8 v l.length (spCs l)) (hok : ∀ i (hi : i < l.length), (stOf l[i]).ok) (hl : l.length ≤ 1000) :
    ∃ A c, v = .slice A l.length c ∧ StRow w A l.length (fun i => stOf (l.getD i default)) := by
  rcases h.2 with ⟨rfl, h0⟩ | ⟨g, cap, cur, rfl, hge, hh, hnc, _, hcs, htk⟩
  · exact ⟨none, 0, by rw [h0], by unfold maxLen; omega, .inl h0⟩
  · refine ⟨_, cap, rfl, by unfold maxLen; omega, .inr ⟨⟨g, 0, none⟩, rfl, (Array.getElem?_eq_some_iff.1 hh).1, fun i hi => ?_⟩⟩
    have e1 : l.getD i default = l[i] := by simp [hi]
    show (stOf (l.getD i default)).ok ∧ StAt w _ i (stOf (l.getD i default))
    rw [e1]
    refine ⟨hok i hi, ?_⟩
    have hc : ∀ j u, j < 8 → (spC l[i])[j]? = some u → w.cell? ⟨g, i * 8 + j, none⟩ = some u := fun j u hj hu => by
      have e := spCs_at l i hi j hj
      rw [hu, ← htk, List.getElem?_take] at e
      split at e
      · rw [Blk.cell (show Blk w g _ cur from hh)]
        simpa using e
      · cases e
    unfold StAt
    rw [add_lit]
    exact ⟨hc 0 _ (by omega) rfl, hc 1 _ (by omega) rfl, hc 2 _ (by omega) rfl, hc 3 _ (by omega) rfl, hc 4 _ (by omega) rfl, hc 5 _ (by omega) rfl, hc 6 _ (by omega) rfl, hc 7 _ (by omega) rfl⟩
/-- The text of one step. -/
theorem text_one (x : Sp) (v : Value) (B : Nat) (w : World) (h : w.ownsRow B 49 8 v 1 (spCs [x])) (hok : (stOf x).ok) (hp : Pow w) :
    Calls Tryd.prog 18 #[v] w fun e w' => e = .returned (.string (bytes (stT (stOf x)))) ∧ Below w.heap.size w w' := by
  obtain ⟨A, c, rfl, hr⟩ := st_row (l := [x]) h (fun i hi => by
    have : i = 0 := by simpa using hi
    subst this
    exact hok) (by simp)
  have := text_a A 1 c _ w hr (by omega) (by omega) hp
  simpa [txt] using this
end Pth
end Go.Proofs.YtiojpokfcejhcaaDoor
