/- The code of one operation with two sides may be. No program's text. -/
import Derived.Test.YtoiibphbogpojaaDoorCodP
namespace Go.Proofs.YtoiibphbogpojaaDoor
open Go Go.RowKit Go.Proofs.YtoiibphbogpojaaDoor.Cod
set_option linter.unusedVariables false
set_option linter.unusedSimpArgs false
namespace Vm
def oneCs (k : Nat) (a b : Int) : List In := [⟨1, a⟩, ⟨1, b⟩, ⟨10 + (k : Int), 0⟩, ⟨3, 0⟩, ⟨29, 0⟩]
theorem one0 (a b : Int) : HtR (oneCs 0 a b) 1 [] (some [0, 1, 2, 1, 0]) :=
  .inr ⟨by rfl, .go [0, -1, -1, -1, -1] [] 0 [0, 1, -1, -1, -1] [1] _ (by rfl) (.go [0, 1, -1, -1, -1] [] 1 [0, 1, 2, -1, -1] [2] _ (by rfl) (.go [0, 1, 2, -1, -1] [] 2 [0, 1, 2, 1, -1] [3] _ (by rfl) (.go [0, 1, 2, 1, -1] [] 3 [0, 1, 2, 1, 0] [4] _ (by rfl) (.go [0, 1, 2, 1, 0] [] 4 [0, 1, 2, 1, 0] [] _ (by rfl) (.stop _)))))⟩
theorem one1 (a b : Int) : HtR (oneCs 1 a b) 1 [] (some [0, 1, 2, 1, 0]) :=
  .inr ⟨by rfl, .go [0, -1, -1, -1, -1] [] 0 [0, 1, -1, -1, -1] [1] _ (by rfl) (.go [0, 1, -1, -1, -1] [] 1 [0, 1, 2, -1, -1] [2] _ (by rfl) (.go [0, 1, 2, -1, -1] [] 2 [0, 1, 2, 1, -1] [3] _ (by rfl) (.go [0, 1, 2, 1, -1] [] 3 [0, 1, 2, 1, 0] [4] _ (by rfl) (.go [0, 1, 2, 1, 0] [] 4 [0, 1, 2, 1, 0] [] _ (by rfl) (.stop _)))))⟩
theorem one2 (a b : Int) : HtR (oneCs 2 a b) 1 [] (some [0, 1, 2, 1, 0]) :=
  .inr ⟨by rfl, .go [0, -1, -1, -1, -1] [] 0 [0, 1, -1, -1, -1] [1] _ (by rfl) (.go [0, 1, -1, -1, -1] [] 1 [0, 1, 2, -1, -1] [2] _ (by rfl) (.go [0, 1, 2, -1, -1] [] 2 [0, 1, 2, 1, -1] [3] _ (by rfl) (.go [0, 1, 2, 1, -1] [] 3 [0, 1, 2, 1, 0] [4] _ (by rfl) (.go [0, 1, 2, 1, 0] [] 4 [0, 1, 2, 1, 0] [] _ (by rfl) (.stop _)))))⟩
theorem one3 (a b : Int) : HtR (oneCs 3 a b) 1 [] (some [0, 1, 2, 1, 0]) :=
  .inr ⟨by rfl, .go [0, -1, -1, -1, -1] [] 0 [0, 1, -1, -1, -1] [1] _ (by rfl) (.go [0, 1, -1, -1, -1] [] 1 [0, 1, 2, -1, -1] [2] _ (by rfl) (.go [0, 1, 2, -1, -1] [] 2 [0, 1, 2, 1, -1] [3] _ (by rfl) (.go [0, 1, 2, 1, -1] [] 3 [0, 1, 2, 1, 0] [4] _ (by rfl) (.go [0, 1, 2, 1, 0] [] 4 [0, 1, 2, 1, 0] [] _ (by rfl) (.stop _)))))⟩
theorem one4 (a b : Int) : HtR (oneCs 4 a b) 1 [] (some [0, 1, 2, 1, 0]) :=
  .inr ⟨by rfl, .go [0, -1, -1, -1, -1] [] 0 [0, 1, -1, -1, -1] [1] _ (by rfl) (.go [0, 1, -1, -1, -1] [] 1 [0, 1, 2, -1, -1] [2] _ (by rfl) (.go [0, 1, 2, -1, -1] [] 2 [0, 1, 2, 1, -1] [3] _ (by rfl) (.go [0, 1, 2, 1, -1] [] 3 [0, 1, 2, 1, 0] [4] _ (by rfl) (.go [0, 1, 2, 1, 0] [] 4 [0, 1, 2, 1, 0] [] _ (by rfl) (.stop _)))))⟩
theorem one5 (a b : Int) : HtR (oneCs 5 a b) 1 [] (some [0, 1, 2, 1, 0]) :=
  .inr ⟨by rfl, .go [0, -1, -1, -1, -1] [] 0 [0, 1, -1, -1, -1] [1] _ (by rfl) (.go [0, 1, -1, -1, -1] [] 1 [0, 1, 2, -1, -1] [2] _ (by rfl) (.go [0, 1, 2, -1, -1] [] 2 [0, 1, 2, 1, -1] [3] _ (by rfl) (.go [0, 1, 2, 1, -1] [] 3 [0, 1, 2, 1, 0] [4] _ (by rfl) (.go [0, 1, 2, 1, 0] [] 4 [0, 1, 2, 1, 0] [] _ (by rfl) (.stop _)))))⟩
theorem one6 (a b : Int) : HtR (oneCs 6 a b) 1 [] (some [0, 1, 2, 1, 0]) :=
  .inr ⟨by rfl, .go [0, -1, -1, -1, -1] [] 0 [0, 1, -1, -1, -1] [1] _ (by rfl) (.go [0, 1, -1, -1, -1] [] 1 [0, 1, 2, -1, -1] [2] _ (by rfl) (.go [0, 1, 2, -1, -1] [] 2 [0, 1, 2, 1, -1] [3] _ (by rfl) (.go [0, 1, 2, 1, -1] [] 3 [0, 1, 2, 1, 0] [4] _ (by rfl) (.go [0, 1, 2, 1, 0] [] 4 [0, 1, 2, 1, 0] [] _ (by rfl) (.stop _)))))⟩
theorem one7 (a b : Int) : HtR (oneCs 7 a b) 1 [] (some [0, 1, 2, 1, 0]) :=
  .inr ⟨by rfl, .go [0, -1, -1, -1, -1] [] 0 [0, 1, -1, -1, -1] [1] _ (by rfl) (.go [0, 1, -1, -1, -1] [] 1 [0, 1, 2, -1, -1] [2] _ (by rfl) (.go [0, 1, 2, -1, -1] [] 2 [0, 1, 2, 1, -1] [3] _ (by rfl) (.go [0, 1, 2, 1, -1] [] 3 [0, 1, 2, 1, 0] [4] _ (by rfl) (.go [0, 1, 2, 1, 0] [] 4 [0, 1, 2, 1, 0] [] _ (by rfl) (.stop _)))))⟩
theorem one8 (a b : Int) : HtR (oneCs 8 a b) 1 [] (some [0, 1, 2, 1, 0]) :=
  .inr ⟨by rfl, .go [0, -1, -1, -1, -1] [] 0 [0, 1, -1, -1, -1] [1] _ (by rfl) (.go [0, 1, -1, -1, -1] [] 1 [0, 1, 2, -1, -1] [2] _ (by rfl) (.go [0, 1, 2, -1, -1] [] 2 [0, 1, 2, 1, -1] [3] _ (by rfl) (.go [0, 1, 2, 1, -1] [] 3 [0, 1, 2, 1, 0] [4] _ (by rfl) (.go [0, 1, 2, 1, 0] [] 4 [0, 1, 2, 1, 0] [] _ (by rfl) (.stop _)))))⟩
theorem one9 (a b : Int) : HtR (oneCs 9 a b) 1 [] (some [0, 1, 2, 1, 0]) :=
  .inr ⟨by rfl, .go [0, -1, -1, -1, -1] [] 0 [0, 1, -1, -1, -1] [1] _ (by rfl) (.go [0, 1, -1, -1, -1] [] 1 [0, 1, 2, -1, -1] [2] _ (by rfl) (.go [0, 1, 2, -1, -1] [] 2 [0, 1, 2, 1, -1] [3] _ (by rfl) (.go [0, 1, 2, 1, -1] [] 3 [0, 1, 2, 1, 0] [4] _ (by rfl) (.go [0, 1, 2, 1, 0] [] 4 [0, 1, 2, 1, 0] [] _ (by rfl) (.stop _)))))⟩
theorem one10 (a b : Int) : HtR (oneCs 10 a b) 1 [] (some [0, 1, 2, 1, 0]) :=
  .inr ⟨by rfl, .go [0, -1, -1, -1, -1] [] 0 [0, 1, -1, -1, -1] [1] _ (by rfl) (.go [0, 1, -1, -1, -1] [] 1 [0, 1, 2, -1, -1] [2] _ (by rfl) (.go [0, 1, 2, -1, -1] [] 2 [0, 1, 2, 1, -1] [3] _ (by rfl) (.go [0, 1, 2, 1, -1] [] 3 [0, 1, 2, 1, 0] [4] _ (by rfl) (.go [0, 1, 2, 1, 0] [] 4 [0, 1, 2, 1, 0] [] _ (by rfl) (.stop _)))))⟩
theorem one_may (a b : Int) : ∀ k, k < 11 → HtR (oneCs k a b) 1 [] (some [0, 1, 2, 1, 0])
  | 0, _ => one0 a b
  | 1, _ => one1 a b
  | 2, _ => one2 a b
  | 3, _ => one3 a b
  | 4, _ => one4 a b
  | 5, _ => one5 a b
  | 6, _ => one6 a b
  | 7, _ => one7 a b
  | 8, _ => one8 a b
  | 9, _ => one9 a b
  | 10, _ => one10 a b
  | _ + 11, h => absurd h (by omega)
end Vm
end Go.Proofs.YtoiibphbogpojaaDoor
