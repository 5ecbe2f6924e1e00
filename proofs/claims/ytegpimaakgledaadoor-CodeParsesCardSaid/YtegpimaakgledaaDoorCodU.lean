/- An instruction written over in a program's own row. -/
import Derived.Test.YtegpimaakgledaaDoorRows
import Derived.Test.YtegpimaakgledaaDoorCodJ
import Derived.Test.YtegpimaakgledaaDoorOwn
import Derived.Test.YtegpimaakgledaaDoorCodT
namespace Go.Proofs.YtegpimaakgledaaDoor
open Go Go.RowKit
set_option linter.unusedVariables false
set_option linter.unusedSimpArgs false
namespace Cod
theorem codeCs_set : ∀ (cs : List In) (p : Nat) (x : In), p < cs.length → ((codeCs cs).set (p * 2) (.int .u8 x.op)).set (p * 2 + 1) (.int .i64 x.n) = codeCs (cs.set p x)
  | c :: l, 0, x, _ => rfl
  | c :: l, p + 1, x, h => by
    have ih := codeCs_set l p x (by simpa using h)
    have e1 : (p + 1) * 2 = p * 2 + 1 + 1 := by omega
    rw [e1]
    exact congrArg (fun z => Value.int .u8 c.op :: Value.int .i64 c.n :: z) ih
theorem own_code_set {w : World} {B g n c : Nat} {cs : List In} (h : w.ownsRow B 47 2 (.slice (some ⟨g, 0, none⟩) n c) n (codeCs cs)) (p : Nat) (x : In) (hp : p < cs.length) (hn : cs.length = n) :
    ((w.setCell ⟨g, p * 2, none⟩ (.int .u8 x.op)).setCell ⟨g, p * 2 + 1, none⟩ (.int .i64 x.n)).ownsRow B 47 2 (.slice (some ⟨g, 0, none⟩) n c) n (codeCs (cs.set p x)) := by
  rw [← codeCs_set cs p x hp]
  exact own_set (own_set h _) _
theorem mayNs_set {cs : List In} {vars : Int} {arrs : List Int} (h : mayNs cs vars arrs = true) (p : Nat) (x : In) (hp : p + 1 < cs.length) (hx : ∀ len v a : Int, mayN len v a x = true) : mayNs (cs.set p x) vars arrs = true := by
  unfold mayNs at h ⊢
  simp only [Bool.and_eq_true, decide_eq_true_eq, List.all_eq_true, List.length_set] at h ⊢
  obtain ⟨⟨⟨⟨⟨⟨h1, h2⟩, h3⟩, h4⟩, h5⟩, h6⟩, h7⟩ := h
  refine ⟨⟨⟨⟨⟨⟨h1, h2⟩, ?_⟩, h4⟩, h5⟩, h6⟩, ?_⟩
  · rw [List.getD_eq_getElem?_getD, List.getElem?_set_ne (by omega), ← List.getD_eq_getElem?_getD]; exact h3
  · intro y hy
    rcases List.mem_or_eq_of_mem_set hy with h | rfl
    · exact h7 y h
    · exact hx _ _ _
theorem mayN_add (len v a : Int) : mayN len v a ⟨13, 0⟩ = true := rfl
theorem h0_at (n : Nat) (hn : 0 < n) : (h0 n).getD 0 0 = 0 := by
  unfold h0
  obtain ⟨m, rfl⟩ : ∃ m, n = m + 1 := ⟨n - 1, by omega⟩
  rfl
theorem HtR.unseen {cs : List In} {vars : Int} {arrs hs : List Int} {p : Nat} (h : HtR cs vars arrs (some hs)) (hp : p + 1 < cs.length) (hz : hs.getD p 0 = -1) : HtR (cs.set p ⟨13, 0⟩) vars arrs (some hs) := by
  rcases h with ⟨_, h⟩ | ⟨hm, hg⟩
  · cases h
  · refine .inr ⟨mayNs_set hm p _ hp mayN_add, ?_⟩
    rw [List.length_set]
    refine hg.unseen (p := p) (fun i hi => ?_) hs rfl hz (fun k hk => ?_)
    · rw [List.getD_eq_getElem?_getD, List.getElem?_set_ne (fun e => hi e.symm), ← List.getD_eq_getElem?_getD]
    · rw [List.mem_singleton.1 hk, h0_at _ (by omega)]
      decide
end Cod
end Go.Proofs.YtegpimaakgledaaDoor
