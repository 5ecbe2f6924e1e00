/- The words of kinds, told by the document. -/
import Derived.Test.YthcoelkpiflfeaaDoorRows
import Derived.Test.YthcoelkpiflfeaaDoorCtA
namespace Go.Proofs.YthcoelkpiflfeaaDoor
open Go Go.RowKit Go.Lib Go.Proofs.YthcoelkpiflfeaaDoor.Grp
set_option linter.unusedVariables false
set_option linter.unusedSimpArgs false
namespace Cal
set_option maxRecDepth 100000 in
set_option maxHeartbeats 8000000 in
theorem word_b (k : Int) (hk : kindC k) (w : World) : Calls Tryd.prog 29 #[.int .u8 k] w fun e w' => e = .returned (.string (bytes (wordL k))) ∧ Below w.heap.size w w' := by
  have HB := hide ((Below.refl w.heap.size w).alloc (Nat.le_refl _) (.cells #[.string ⟨#[115, 101, 110, 100]⟩, .string ⟨#[115, 115, 101, 110, 100]⟩, .string ⟨#[98, 115, 101, 110, 100]⟩, .string ⟨#[105, 115, 101, 110, 100]⟩, .string ⟨#[105, 115, 115, 101, 110, 100]⟩, .string ⟨#[114, 101, 99, 118]⟩, .string ⟨#[105, 114, 101, 99, 118]⟩, .string ⟨#[119, 97, 105, 116]⟩, .string ⟨#[119, 97, 105, 116, 97, 108, 108]⟩, .string ⟨#[119, 97, 105, 116, 97, 110, 121]⟩, .string ⟨#[116, 101, 115, 116]⟩, .string ⟨#[116, 101, 115, 116, 97, 110, 121]⟩, .string ⟨#[112, 114, 111, 98, 101]⟩, .string ⟨#[105, 112, 114, 111, 98, 101]⟩, .string ⟨#[98, 97, 114, 114, 105, 101, 114]⟩, .string ⟨#[98, 99, 97, 115, 116]⟩, .string ⟨#[114, 101, 100, 117, 99, 101]⟩, .string ⟨#[97, 108, 108, 114, 101, 100, 117, 99, 101]⟩, .string ⟨#[103, 97, 116, 104, 101, 114]⟩, .string ⟨#[100, 117, 112]⟩, .string ⟨#[115, 112, 108, 105, 116]⟩, .string ⟨#[102, 114, 101, 101]⟩] 9))
  rcases kind_cases hk with rfl | rfl | rfl | rfl | rfl | rfl | rfl | rfl | rfl | rfl | rfl | rfl | rfl | rfl | rfl | rfl | rfl | rfl | rfl | rfl | rfl | rfl
  all_goals
    clear hk
    go_enter Tryd.func29, Tryd.ntmps29
    go_wp2_with fail
    go_ret
    exact ⟨rfl, HB.out⟩
end Cal
end Go.Proofs.YthcoelkpiflfeaaDoor
