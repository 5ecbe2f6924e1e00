/- The words of kinds and of operations, told by the program and by the document; which kinds reduce; how many numbers a kind has. -/
import Derived.Test.YthcoelkpiflfeaaDoorRows
import Derived.Test.YthcoelkpiflfeaaDoorCtQ
import Derived.Test.YthcoelkpiflfeaaDoorCalC
namespace Go.Proofs.YthcoelkpiflfeaaDoor
open Go Go.RowKit Go.Lib Go.Proofs.YthcoelkpiflfeaaDoor.Grp
set_option linter.unusedVariables false
set_option linter.unusedSimpArgs false
namespace Cal
theorem kind_cases {k : Int} (h : kindC k) : k = 1 ∨ k = 2 ∨ k = 3 ∨ k = 4 ∨ k = 5 ∨ k = 6 ∨ k = 7 ∨ k = 8 ∨ k = 9 ∨ k = 10 ∨ k = 11 ∨ k = 12 ∨ k = 13 ∨ k = 14 ∨ k = 15 ∨ k = 16 ∨ k = 17 ∨ k = 18 ∨ k = 19 ∨ k = 20 ∨ k = 21 ∨ k = 22 := by
  obtain ⟨h1, h2⟩ := h
  omega
theorem word_lit : ∀ n : Fin 22, wordL ((n.1 : Int) + 1) = TreeCallsW.names.getD n.1 [] := by decide +kernel
set_option maxRecDepth 100000 in
set_option maxHeartbeats 8000000 in
theorem word_at : ∀ (n : Nat) (w : World), n < 22 → (Instr.index 80 (.agg #[.string ⟨#[]⟩, .string ⟨#[115, 101, 110, 100]⟩, .string ⟨#[115, 115, 101, 110, 100]⟩, .string ⟨#[98, 115, 101, 110, 100]⟩, .string ⟨#[105, 115, 101, 110, 100]⟩, .string ⟨#[105, 115, 115, 101, 110, 100]⟩, .string ⟨#[114, 101, 99, 118]⟩, .string ⟨#[105, 114, 101, 99, 118]⟩, .string ⟨#[119, 97, 105, 116]⟩, .string ⟨#[119, 97, 105, 116, 97, 108, 108]⟩, .string ⟨#[119, 97, 105, 116, 97, 110, 121]⟩, .string ⟨#[116, 101, 115, 116]⟩, .string ⟨#[116, 101, 115, 116, 97, 110, 121]⟩, .string ⟨#[112, 114, 111, 98, 101]⟩, .string ⟨#[105, 112, 114, 111, 98, 101]⟩, .string ⟨#[98, 97, 114, 114, 105, 101, 114]⟩, .string ⟨#[98, 99, 97, 115, 116]⟩, .string ⟨#[114, 101, 100, 117, 99, 101]⟩, .string ⟨#[97, 108, 108, 114, 101, 100, 117, 99, 101]⟩, .string ⟨#[103, 97, 116, 104, 101, 114]⟩, .string ⟨#[100, 117, 112]⟩, .string ⟨#[115, 112, 108, 105, 116]⟩, .string ⟨#[102, 114, 101, 101]⟩]) (.int .u8 ((n : Int) + 1))).run Tryd.prog w = .ok (.string (bytes (TreeCallsW.names.getD n []))) w
  | 0, w, _ => by kernel_rfl
  | 1, w, _ => by kernel_rfl
  | 2, w, _ => by kernel_rfl
  | 3, w, _ => by kernel_rfl
  | 4, w, _ => by kernel_rfl
  | 5, w, _ => by kernel_rfl
  | 6, w, _ => by kernel_rfl
  | 7, w, _ => by kernel_rfl
  | 8, w, _ => by kernel_rfl
  | 9, w, _ => by kernel_rfl
  | 10, w, _ => by kernel_rfl
  | 11, w, _ => by kernel_rfl
  | 12, w, _ => by kernel_rfl
  | 13, w, _ => by kernel_rfl
  | 14, w, _ => by kernel_rfl
  | 15, w, _ => by kernel_rfl
  | 16, w, _ => by kernel_rfl
  | 17, w, _ => by kernel_rfl
  | 18, w, _ => by kernel_rfl
  | 19, w, _ => by kernel_rfl
  | 20, w, _ => by kernel_rfl
  | 21, w, _ => by kernel_rfl
  | n + 22, w, h => absurd h (by omega)
set_option maxRecDepth 100000 in
set_option maxHeartbeats 8000000 in
theorem word_c (k : Int) (hk : kindC k) (w : World) : Calls Tryd.prog 21 #[.int .u8 k] w fun e w' => e = .returned (.string (bytes (wordL k))) ∧ w' = w := by
  rcases kind_cases hk with rfl | rfl | rfl | rfl | rfl | rfl | rfl | rfl | rfl | rfl | rfl | rfl | rfl | rfl | rfl | rfl | rfl | rfl | rfl | rfl | rfl | rfl
  · have RI : ∀ w : World, (Instr.index 80 (.agg #[.string ⟨#[]⟩, .string ⟨#[115, 101, 110, 100]⟩, .string ⟨#[115, 115, 101, 110, 100]⟩, .string ⟨#[98, 115, 101, 110, 100]⟩, .string ⟨#[105, 115, 101, 110, 100]⟩, .string ⟨#[105, 115, 115, 101, 110, 100]⟩, .string ⟨#[114, 101, 99, 118]⟩, .string ⟨#[105, 114, 101, 99, 118]⟩, .string ⟨#[119, 97, 105, 116]⟩, .string ⟨#[119, 97, 105, 116, 97, 108, 108]⟩, .string ⟨#[119, 97, 105, 116, 97, 110, 121]⟩, .string ⟨#[116, 101, 115, 116]⟩, .string ⟨#[116, 101, 115, 116, 97, 110, 121]⟩, .string ⟨#[112, 114, 111, 98, 101]⟩, .string ⟨#[105, 112, 114, 111, 98, 101]⟩, .string ⟨#[98, 97, 114, 114, 105, 101, 114]⟩, .string ⟨#[98, 99, 97, 115, 116]⟩, .string ⟨#[114, 101, 100, 117, 99, 101]⟩, .string ⟨#[97, 108, 108, 114, 101, 100, 117, 99, 101]⟩, .string ⟨#[103, 97, 116, 104, 101, 114]⟩, .string ⟨#[100, 117, 112]⟩, .string ⟨#[115, 112, 108, 105, 116]⟩, .string ⟨#[102, 114, 101, 101]⟩]) (.int .u8 1)).run Tryd.prog w = .ok (.string (bytes (wordL 1))) w := fun w => word_at 0 w (by decide)
    clear hk
    go_enter Tryd.func21, Tryd.ntmps21
    go_wp2_with fail
    go_ret
    exact ⟨rfl, rfl⟩
  · have RI : ∀ w : World, (Instr.index 80 (.agg #[.string ⟨#[]⟩, .string ⟨#[115, 101, 110, 100]⟩, .string ⟨#[115, 115, 101, 110, 100]⟩, .string ⟨#[98, 115, 101, 110, 100]⟩, .string ⟨#[105, 115, 101, 110, 100]⟩, .string ⟨#[105, 115, 115, 101, 110, 100]⟩, .string ⟨#[114, 101, 99, 118]⟩, .string ⟨#[105, 114, 101, 99, 118]⟩, .string ⟨#[119, 97, 105, 116]⟩, .string ⟨#[119, 97, 105, 116, 97, 108, 108]⟩, .string ⟨#[119, 97, 105, 116, 97, 110, 121]⟩, .string ⟨#[116, 101, 115, 116]⟩, .string ⟨#[116, 101, 115, 116, 97, 110, 121]⟩, .string ⟨#[112, 114, 111, 98, 101]⟩, .string ⟨#[105, 112, 114, 111, 98, 101]⟩, .string ⟨#[98, 97, 114, 114, 105, 101, 114]⟩, .string ⟨#[98, 99, 97, 115, 116]⟩, .string ⟨#[114, 101, 100, 117, 99, 101]⟩, .string ⟨#[97, 108, 108, 114, 101, 100, 117, 99, 101]⟩, .string ⟨#[103, 97, 116, 104, 101, 114]⟩, .string ⟨#[100, 117, 112]⟩, .string ⟨#[115, 112, 108, 105, 116]⟩, .string ⟨#[102, 114, 101, 101]⟩]) (.int .u8 2)).run Tryd.prog w = .ok (.string (bytes (wordL 2))) w := fun w => word_at 1 w (by decide)
    clear hk
    go_enter Tryd.func21, Tryd.ntmps21
    go_wp2_with fail
    go_ret
    exact ⟨rfl, rfl⟩
  · have RI : ∀ w : World, (Instr.index 80 (.agg #[.string ⟨#[]⟩, .string ⟨#[115, 101, 110, 100]⟩, .string ⟨#[115, 115, 101, 110, 100]⟩, .string ⟨#[98, 115, 101, 110, 100]⟩, .string ⟨#[105, 115, 101, 110, 100]⟩, .string ⟨#[105, 115, 115, 101, 110, 100]⟩, .string ⟨#[114, 101, 99, 118]⟩, .string ⟨#[105, 114, 101, 99, 118]⟩, .string ⟨#[119, 97, 105, 116]⟩, .string ⟨#[119, 97, 105, 116, 97, 108, 108]⟩, .string ⟨#[119, 97, 105, 116, 97, 110, 121]⟩, .string ⟨#[116, 101, 115, 116]⟩, .string ⟨#[116, 101, 115, 116, 97, 110, 121]⟩, .string ⟨#[112, 114, 111, 98, 101]⟩, .string ⟨#[105, 112, 114, 111, 98, 101]⟩, .string ⟨#[98, 97, 114, 114, 105, 101, 114]⟩, .string ⟨#[98, 99, 97, 115, 116]⟩, .string ⟨#[114, 101, 100, 117, 99, 101]⟩, .string ⟨#[97, 108, 108, 114, 101, 100, 117, 99, 101]⟩, .string ⟨#[103, 97, 116, 104, 101, 114]⟩, .string ⟨#[100, 117, 112]⟩, .string ⟨#[115, 112, 108, 105, 116]⟩, .string ⟨#[102, 114, 101, 101]⟩]) (.int .u8 3)).run Tryd.prog w = .ok (.string (bytes (wordL 3))) w := fun w => word_at 2 w (by decide)
    clear hk
    go_enter Tryd.func21, Tryd.ntmps21
    go_wp2_with fail
    go_ret
    exact ⟨rfl, rfl⟩
  · have RI : ∀ w : World, (Instr.index 80 (.agg #[.string ⟨#[]⟩, .string ⟨#[115, 101, 110, 100]⟩, .string ⟨#[115, 115, 101, 110, 100]⟩, .string ⟨#[98, 115, 101, 110, 100]⟩, .string ⟨#[105, 115, 101, 110, 100]⟩, .string ⟨#[105, 115, 115, 101, 110, 100]⟩, .string ⟨#[114, 101, 99, 118]⟩, .string ⟨#[105, 114, 101, 99, 118]⟩, .string ⟨#[119, 97, 105, 116]⟩, .string ⟨#[119, 97, 105, 116, 97, 108, 108]⟩, .string ⟨#[119, 97, 105, 116, 97, 110, 121]⟩, .string ⟨#[116, 101, 115, 116]⟩, .string ⟨#[116, 101, 115, 116, 97, 110, 121]⟩, .string ⟨#[112, 114, 111, 98, 101]⟩, .string ⟨#[105, 112, 114, 111, 98, 101]⟩, .string ⟨#[98, 97, 114, 114, 105, 101, 114]⟩, .string ⟨#[98, 99, 97, 115, 116]⟩, .string ⟨#[114, 101, 100, 117, 99, 101]⟩, .string ⟨#[97, 108, 108, 114, 101, 100, 117, 99, 101]⟩, .string ⟨#[103, 97, 116, 104, 101, 114]⟩, .string ⟨#[100, 117, 112]⟩, .string ⟨#[115, 112, 108, 105, 116]⟩, .string ⟨#[102, 114, 101, 101]⟩]) (.int .u8 4)).run Tryd.prog w = .ok (.string (bytes (wordL 4))) w := fun w => word_at 3 w (by decide)
    clear hk
    go_enter Tryd.func21, Tryd.ntmps21
    go_wp2_with fail
    go_ret
    exact ⟨rfl, rfl⟩
  · have RI : ∀ w : World, (Instr.index 80 (.agg #[.string ⟨#[]⟩, .string ⟨#[115, 101, 110, 100]⟩, .string ⟨#[115, 115, 101, 110, 100]⟩, .string ⟨#[98, 115, 101, 110, 100]⟩, .string ⟨#[105, 115, 101, 110, 100]⟩, .string ⟨#[105, 115, 115, 101, 110, 100]⟩, .string ⟨#[114, 101, 99, 118]⟩, .string ⟨#[105, 114, 101, 99, 118]⟩, .string ⟨#[119, 97, 105, 116]⟩, .string ⟨#[119, 97, 105, 116, 97, 108, 108]⟩, .string ⟨#[119, 97, 105, 116, 97, 110, 121]⟩, .string ⟨#[116, 101, 115, 116]⟩, .string ⟨#[116, 101, 115, 116, 97, 110, 121]⟩, .string ⟨#[112, 114, 111, 98, 101]⟩, .string ⟨#[105, 112, 114, 111, 98, 101]⟩, .string ⟨#[98, 97, 114, 114, 105, 101, 114]⟩, .string ⟨#[98, 99, 97, 115, 116]⟩, .string ⟨#[114, 101, 100, 117, 99, 101]⟩, .string ⟨#[97, 108, 108, 114, 101, 100, 117, 99, 101]⟩, .string ⟨#[103, 97, 116, 104, 101, 114]⟩, .string ⟨#[100, 117, 112]⟩, .string ⟨#[115, 112, 108, 105, 116]⟩, .string ⟨#[102, 114, 101, 101]⟩]) (.int .u8 5)).run Tryd.prog w = .ok (.string (bytes (wordL 5))) w := fun w => word_at 4 w (by decide)
    clear hk
    go_enter Tryd.func21, Tryd.ntmps21
    go_wp2_with fail
    go_ret
    exact ⟨rfl, rfl⟩
  · have RI : ∀ w : World, (Instr.index 80 (.agg #[.string ⟨#[]⟩, .string ⟨#[115, 101, 110, 100]⟩, .string ⟨#[115, 115, 101, 110, 100]⟩, .string ⟨#[98, 115, 101, 110, 100]⟩, .string ⟨#[105, 115, 101, 110, 100]⟩, .string ⟨#[105, 115, 115, 101, 110, 100]⟩, .string ⟨#[114, 101, 99, 118]⟩, .string ⟨#[105, 114, 101, 99, 118]⟩, .string ⟨#[119, 97, 105, 116]⟩, .string ⟨#[119, 97, 105, 116, 97, 108, 108]⟩, .string ⟨#[119, 97, 105, 116, 97, 110, 121]⟩, .string ⟨#[116, 101, 115, 116]⟩, .string ⟨#[116, 101, 115, 116, 97, 110, 121]⟩, .string ⟨#[112, 114, 111, 98, 101]⟩, .string ⟨#[105, 112, 114, 111, 98, 101]⟩, .string ⟨#[98, 97, 114, 114, 105, 101, 114]⟩, .string ⟨#[98, 99, 97, 115, 116]⟩, .string ⟨#[114, 101, 100, 117, 99, 101]⟩, .string ⟨#[97, 108, 108, 114, 101, 100, 117, 99, 101]⟩, .string ⟨#[103, 97, 116, 104, 101, 114]⟩, .string ⟨#[100, 117, 112]⟩, .string ⟨#[115, 112, 108, 105, 116]⟩, .string ⟨#[102, 114, 101, 101]⟩]) (.int .u8 6)).run Tryd.prog w = .ok (.string (bytes (wordL 6))) w := fun w => word_at 5 w (by decide)
    clear hk
    go_enter Tryd.func21, Tryd.ntmps21
    go_wp2_with fail
    go_ret
    exact ⟨rfl, rfl⟩
  · have RI : ∀ w : World, (Instr.index 80 (.agg #[.string ⟨#[]⟩, .string ⟨#[115, 101, 110, 100]⟩, .string ⟨#[115, 115, 101, 110, 100]⟩, .string ⟨#[98, 115, 101, 110, 100]⟩, .string ⟨#[105, 115, 101, 110, 100]⟩, .string ⟨#[105, 115, 115, 101, 110, 100]⟩, .string ⟨#[114, 101, 99, 118]⟩, .string ⟨#[105, 114, 101, 99, 118]⟩, .string ⟨#[119, 97, 105, 116]⟩, .string ⟨#[119, 97, 105, 116, 97, 108, 108]⟩, .string ⟨#[119, 97, 105, 116, 97, 110, 121]⟩, .string ⟨#[116, 101, 115, 116]⟩, .string ⟨#[116, 101, 115, 116, 97, 110, 121]⟩, .string ⟨#[112, 114, 111, 98, 101]⟩, .string ⟨#[105, 112, 114, 111, 98, 101]⟩, .string ⟨#[98, 97, 114, 114, 105, 101, 114]⟩, .string ⟨#[98, 99, 97, 115, 116]⟩, .string ⟨#[114, 101, 100, 117, 99, 101]⟩, .string ⟨#[97, 108, 108, 114, 101, 100, 117, 99, 101]⟩, .string ⟨#[103, 97, 116, 104, 101, 114]⟩, .string ⟨#[100, 117, 112]⟩, .string ⟨#[115, 112, 108, 105, 116]⟩, .string ⟨#[102, 114, 101, 101]⟩]) (.int .u8 7)).run Tryd.prog w = .ok (.string (bytes (wordL 7))) w := fun w => word_at 6 w (by decide)
    clear hk
    go_enter Tryd.func21, Tryd.ntmps21
    go_wp2_with fail
    go_ret
    exact ⟨rfl, rfl⟩
  · have RI : ∀ w : World, (Instr.index 80 (.agg #[.string ⟨#[]⟩, .string ⟨#[115, 101, 110, 100]⟩, .string ⟨#[115, 115, 101, 110, 100]⟩, .string ⟨#[98, 115, 101, 110, 100]⟩, .string ⟨#[105, 115, 101, 110, 100]⟩, .string ⟨#[105, 115, 115, 101, 110, 100]⟩, .string ⟨#[114, 101, 99, 118]⟩, .string ⟨#[105, 114, 101, 99, 118]⟩, .string ⟨#[119, 97, 105, 116]⟩, .string ⟨#[119, 97, 105, 116, 97, 108, 108]⟩, .string ⟨#[119, 97, 105, 116, 97, 110, 121]⟩, .string ⟨#[116, 101, 115, 116]⟩, .string ⟨#[116, 101, 115, 116, 97, 110, 121]⟩, .string ⟨#[112, 114, 111, 98, 101]⟩, .string ⟨#[105, 112, 114, 111, 98, 101]⟩, .string ⟨#[98, 97, 114, 114, 105, 101, 114]⟩, .string ⟨#[98, 99, 97, 115, 116]⟩, .string ⟨#[114, 101, 100, 117, 99, 101]⟩, .string ⟨#[97, 108, 108, 114, 101, 100, 117, 99, 101]⟩, .string ⟨#[103, 97, 116, 104, 101, 114]⟩, .string ⟨#[100, 117, 112]⟩, .string ⟨#[115, 112, 108, 105, 116]⟩, .string ⟨#[102, 114, 101, 101]⟩]) (.int .u8 8)).run Tryd.prog w = .ok (.string (bytes (wordL 8))) w := fun w => word_at 7 w (by decide)
    clear hk
    go_enter Tryd.func21, Tryd.ntmps21
    go_wp2_with fail
    go_ret
    exact ⟨rfl, rfl⟩
  · have RI : ∀ w : World, (Instr.index 80 (.agg #[.string ⟨#[]⟩, .string ⟨#[115, 101, 110, 100]⟩, .string ⟨#[115, 115, 101, 110, 100]⟩, .string ⟨#[98, 115, 101, 110, 100]⟩, .string ⟨#[105, 115, 101, 110, 100]⟩, .string ⟨#[105, 115, 115, 101, 110, 100]⟩, .string ⟨#[114, 101, 99, 118]⟩, .string ⟨#[105, 114, 101, 99, 118]⟩, .string ⟨#[119, 97, 105, 116]⟩, .string ⟨#[119, 97, 105, 116, 97, 108, 108]⟩, .string ⟨#[119, 97, 105, 116, 97, 110, 121]⟩, .string ⟨#[116, 101, 115, 116]⟩, .string ⟨#[116, 101, 115, 116, 97, 110, 121]⟩, .string ⟨#[112, 114, 111, 98, 101]⟩, .string ⟨#[105, 112, 114, 111, 98, 101]⟩, .string ⟨#[98, 97, 114, 114, 105, 101, 114]⟩, .string ⟨#[98, 99, 97, 115, 116]⟩, .string ⟨#[114, 101, 100, 117, 99, 101]⟩, .string ⟨#[97, 108, 108, 114, 101, 100, 117, 99, 101]⟩, .string ⟨#[103, 97, 116, 104, 101, 114]⟩, .string ⟨#[100, 117, 112]⟩, .string ⟨#[115, 112, 108, 105, 116]⟩, .string ⟨#[102, 114, 101, 101]⟩]) (.int .u8 9)).run Tryd.prog w = .ok (.string (bytes (wordL 9))) w := fun w => word_at 8 w (by decide)
    clear hk
    go_enter Tryd.func21, Tryd.ntmps21
    go_wp2_with fail
    go_ret
    exact ⟨rfl, rfl⟩
  · have RI : ∀ w : World, (Instr.index 80 (.agg #[.string ⟨#[]⟩, .string ⟨#[115, 101, 110, 100]⟩, .string ⟨#[115, 115, 101, 110, 100]⟩, .string ⟨#[98, 115, 101, 110, 100]⟩, .string ⟨#[105, 115, 101, 110, 100]⟩, .string ⟨#[105, 115, 115, 101, 110, 100]⟩, .string ⟨#[114, 101, 99, 118]⟩, .string ⟨#[105, 114, 101, 99, 118]⟩, .string ⟨#[119, 97, 105, 116]⟩, .string ⟨#[119, 97, 105, 116, 97, 108, 108]⟩, .string ⟨#[119, 97, 105, 116, 97, 110, 121]⟩, .string ⟨#[116, 101, 115, 116]⟩, .string ⟨#[116, 101, 115, 116, 97, 110, 121]⟩, .string ⟨#[112, 114, 111, 98, 101]⟩, .string ⟨#[105, 112, 114, 111, 98, 101]⟩, .string ⟨#[98, 97, 114, 114, 105, 101, 114]⟩, .string ⟨#[98, 99, 97, 115, 116]⟩, .string ⟨#[114, 101, 100, 117, 99, 101]⟩, .string ⟨#[97, 108, 108, 114, 101, 100, 117, 99, 101]⟩, .string ⟨#[103, 97, 116, 104, 101, 114]⟩, .string ⟨#[100, 117, 112]⟩, .string ⟨#[115, 112, 108, 105, 116]⟩, .string ⟨#[102, 114, 101, 101]⟩]) (.int .u8 10)).run Tryd.prog w = .ok (.string (bytes (wordL 10))) w := fun w => word_at 9 w (by decide)
    clear hk
    go_enter Tryd.func21, Tryd.ntmps21
    go_wp2_with fail
    go_ret
    exact ⟨rfl, rfl⟩
  · have RI : ∀ w : World, (Instr.index 80 (.agg #[.string ⟨#[]⟩, .string ⟨#[115, 101, 110, 100]⟩, .string ⟨#[115, 115, 101, 110, 100]⟩, .string ⟨#[98, 115, 101, 110, 100]⟩, .string ⟨#[105, 115, 101, 110, 100]⟩, .string ⟨#[105, 115, 115, 101, 110, 100]⟩, .string ⟨#[114, 101, 99, 118]⟩, .string ⟨#[105, 114, 101, 99, 118]⟩, .string ⟨#[119, 97, 105, 116]⟩, .string ⟨#[119, 97, 105, 116, 97, 108, 108]⟩, .string ⟨#[119, 97, 105, 116, 97, 110, 121]⟩, .string ⟨#[116, 101, 115, 116]⟩, .string ⟨#[116, 101, 115, 116, 97, 110, 121]⟩, .string ⟨#[112, 114, 111, 98, 101]⟩, .string ⟨#[105, 112, 114, 111, 98, 101]⟩, .string ⟨#[98, 97, 114, 114, 105, 101, 114]⟩, .string ⟨#[98, 99, 97, 115, 116]⟩, .string ⟨#[114, 101, 100, 117, 99, 101]⟩, .string ⟨#[97, 108, 108, 114, 101, 100, 117, 99, 101]⟩, .string ⟨#[103, 97, 116, 104, 101, 114]⟩, .string ⟨#[100, 117, 112]⟩, .string ⟨#[115, 112, 108, 105, 116]⟩, .string ⟨#[102, 114, 101, 101]⟩]) (.int .u8 11)).run Tryd.prog w = .ok (.string (bytes (wordL 11))) w := fun w => word_at 10 w (by decide)
    clear hk
    go_enter Tryd.func21, Tryd.ntmps21
    go_wp2_with fail
    go_ret
    exact ⟨rfl, rfl⟩
  · have RI : ∀ w : World, (Instr.index 80 (.agg #[.string ⟨#[]⟩, .string ⟨#[115, 101, 110, 100]⟩, .string ⟨#[115, 115, 101, 110, 100]⟩, .string ⟨#[98, 115, 101, 110, 100]⟩, .string ⟨#[105, 115, 101, 110, 100]⟩, .string ⟨#[105, 115, 115, 101, 110, 100]⟩, .string ⟨#[114, 101, 99, 118]⟩, .string ⟨#[105, 114, 101, 99, 118]⟩, .string ⟨#[119, 97, 105, 116]⟩, .string ⟨#[119, 97, 105, 116, 97, 108, 108]⟩, .string ⟨#[119, 97, 105, 116, 97, 110, 121]⟩, .string ⟨#[116, 101, 115, 116]⟩, .string ⟨#[116, 101, 115, 116, 97, 110, 121]⟩, .string ⟨#[112, 114, 111, 98, 101]⟩, .string ⟨#[105, 112, 114, 111, 98, 101]⟩, .string ⟨#[98, 97, 114, 114, 105, 101, 114]⟩, .string ⟨#[98, 99, 97, 115, 116]⟩, .string ⟨#[114, 101, 100, 117, 99, 101]⟩, .string ⟨#[97, 108, 108, 114, 101, 100, 117, 99, 101]⟩, .string ⟨#[103, 97, 116, 104, 101, 114]⟩, .string ⟨#[100, 117, 112]⟩, .string ⟨#[115, 112, 108, 105, 116]⟩, .string ⟨#[102, 114, 101, 101]⟩]) (.int .u8 12)).run Tryd.prog w = .ok (.string (bytes (wordL 12))) w := fun w => word_at 11 w (by decide)
    clear hk
    go_enter Tryd.func21, Tryd.ntmps21
    go_wp2_with fail
    go_ret
    exact ⟨rfl, rfl⟩
  · have RI : ∀ w : World, (Instr.index 80 (.agg #[.string ⟨#[]⟩, .string ⟨#[115, 101, 110, 100]⟩, .string ⟨#[115, 115, 101, 110, 100]⟩, .string ⟨#[98, 115, 101, 110, 100]⟩, .string ⟨#[105, 115, 101, 110, 100]⟩, .string ⟨#[105, 115, 115, 101, 110, 100]⟩, .string ⟨#[114, 101, 99, 118]⟩, .string ⟨#[105, 114, 101, 99, 118]⟩, .string ⟨#[119, 97, 105, 116]⟩, .string ⟨#[119, 97, 105, 116, 97, 108, 108]⟩, .string ⟨#[119, 97, 105, 116, 97, 110, 121]⟩, .string ⟨#[116, 101, 115, 116]⟩, .string ⟨#[116, 101, 115, 116, 97, 110, 121]⟩, .string ⟨#[112, 114, 111, 98, 101]⟩, .string ⟨#[105, 112, 114, 111, 98, 101]⟩, .string ⟨#[98, 97, 114, 114, 105, 101, 114]⟩, .string ⟨#[98, 99, 97, 115, 116]⟩, .string ⟨#[114, 101, 100, 117, 99, 101]⟩, .string ⟨#[97, 108, 108, 114, 101, 100, 117, 99, 101]⟩, .string ⟨#[103, 97, 116, 104, 101, 114]⟩, .string ⟨#[100, 117, 112]⟩, .string ⟨#[115, 112, 108, 105, 116]⟩, .string ⟨#[102, 114, 101, 101]⟩]) (.int .u8 13)).run Tryd.prog w = .ok (.string (bytes (wordL 13))) w := fun w => word_at 12 w (by decide)
    clear hk
    go_enter Tryd.func21, Tryd.ntmps21
    go_wp2_with fail
    go_ret
    exact ⟨rfl, rfl⟩
  · have RI : ∀ w : World, (Instr.index 80 (.agg #[.string ⟨#[]⟩, .string ⟨#[115, 101, 110, 100]⟩, .string ⟨#[115, 115, 101, 110, 100]⟩, .string ⟨#[98, 115, 101, 110, 100]⟩, .string ⟨#[105, 115, 101, 110, 100]⟩, .string ⟨#[105, 115, 115, 101, 110, 100]⟩, .string ⟨#[114, 101, 99, 118]⟩, .string ⟨#[105, 114, 101, 99, 118]⟩, .string ⟨#[119, 97, 105, 116]⟩, .string ⟨#[119, 97, 105, 116, 97, 108, 108]⟩, .string ⟨#[119, 97, 105, 116, 97, 110, 121]⟩, .string ⟨#[116, 101, 115, 116]⟩, .string ⟨#[116, 101, 115, 116, 97, 110, 121]⟩, .string ⟨#[112, 114, 111, 98, 101]⟩, .string ⟨#[105, 112, 114, 111, 98, 101]⟩, .string ⟨#[98, 97, 114, 114, 105, 101, 114]⟩, .string ⟨#[98, 99, 97, 115, 116]⟩, .string ⟨#[114, 101, 100, 117, 99, 101]⟩, .string ⟨#[97, 108, 108, 114, 101, 100, 117, 99, 101]⟩, .string ⟨#[103, 97, 116, 104, 101, 114]⟩, .string ⟨#[100, 117, 112]⟩, .string ⟨#[115, 112, 108, 105, 116]⟩, .string ⟨#[102, 114, 101, 101]⟩]) (.int .u8 14)).run Tryd.prog w = .ok (.string (bytes (wordL 14))) w := fun w => word_at 13 w (by decide)
    clear hk
    go_enter Tryd.func21, Tryd.ntmps21
    go_wp2_with fail
    go_ret
    exact ⟨rfl, rfl⟩
  · have RI : ∀ w : World, (Instr.index 80 (.agg #[.string ⟨#[]⟩, .string ⟨#[115, 101, 110, 100]⟩, .string ⟨#[115, 115, 101, 110, 100]⟩, .string ⟨#[98, 115, 101, 110, 100]⟩, .string ⟨#[105, 115, 101, 110, 100]⟩, .string ⟨#[105, 115, 115, 101, 110, 100]⟩, .string ⟨#[114, 101, 99, 118]⟩, .string ⟨#[105, 114, 101, 99, 118]⟩, .string ⟨#[119, 97, 105, 116]⟩, .string ⟨#[119, 97, 105, 116, 97, 108, 108]⟩, .string ⟨#[119, 97, 105, 116, 97, 110, 121]⟩, .string ⟨#[116, 101, 115, 116]⟩, .string ⟨#[116, 101, 115, 116, 97, 110, 121]⟩, .string ⟨#[112, 114, 111, 98, 101]⟩, .string ⟨#[105, 112, 114, 111, 98, 101]⟩, .string ⟨#[98, 97, 114, 114, 105, 101, 114]⟩, .string ⟨#[98, 99, 97, 115, 116]⟩, .string ⟨#[114, 101, 100, 117, 99, 101]⟩, .string ⟨#[97, 108, 108, 114, 101, 100, 117, 99, 101]⟩, .string ⟨#[103, 97, 116, 104, 101, 114]⟩, .string ⟨#[100, 117, 112]⟩, .string ⟨#[115, 112, 108, 105, 116]⟩, .string ⟨#[102, 114, 101, 101]⟩]) (.int .u8 15)).run Tryd.prog w = .ok (.string (bytes (wordL 15))) w := fun w => word_at 14 w (by decide)
    clear hk
    go_enter Tryd.func21, Tryd.ntmps21
    go_wp2_with fail
    go_ret
    exact ⟨rfl, rfl⟩
  · have RI : ∀ w : World, (Instr.index 80 (.agg #[.string ⟨#[]⟩, .string ⟨#[115, 101, 110, 100]⟩, .string ⟨#[115, 115, 101, 110, 100]⟩, .string ⟨#[98, 115, 101, 110, 100]⟩, .string ⟨#[105, 115, 101, 110, 100]⟩, .string ⟨#[105, 115, 115, 101, 110, 100]⟩, .string ⟨#[114, 101, 99, 118]⟩, .string ⟨#[105, 114, 101, 99, 118]⟩, .string ⟨#[119, 97, 105, 116]⟩, .string ⟨#[119, 97, 105, 116, 97, 108, 108]⟩, .string ⟨#[119, 97, 105, 116, 97, 110, 121]⟩, .string ⟨#[116, 101, 115, 116]⟩, .string ⟨#[116, 101, 115, 116, 97, 110, 121]⟩, .string ⟨#[112, 114, 111, 98, 101]⟩, .string ⟨#[105, 112, 114, 111, 98, 101]⟩, .string ⟨#[98, 97, 114, 114, 105, 101, 114]⟩, .string ⟨#[98, 99, 97, 115, 116]⟩, .string ⟨#[114, 101, 100, 117, 99, 101]⟩, .string ⟨#[97, 108, 108, 114, 101, 100, 117, 99, 101]⟩, .string ⟨#[103, 97, 116, 104, 101, 114]⟩, .string ⟨#[100, 117, 112]⟩, .string ⟨#[115, 112, 108, 105, 116]⟩, .string ⟨#[102, 114, 101, 101]⟩]) (.int .u8 16)).run Tryd.prog w = .ok (.string (bytes (wordL 16))) w := fun w => word_at 15 w (by decide)
    clear hk
    go_enter Tryd.func21, Tryd.ntmps21
    go_wp2_with fail
    go_ret
    exact ⟨rfl, rfl⟩
  · have RI : ∀ w : World, (Instr.index 80 (.agg #[.string ⟨#[]⟩, .string ⟨#[115, 101, 110, 100]⟩, .string ⟨#[115, 115, 101, 110, 100]⟩, .string ⟨#[98, 115, 101, 110, 100]⟩, .string ⟨#[105, 115, 101, 110, 100]⟩, .string ⟨#[105, 115, 115, 101, 110, 100]⟩, .string ⟨#[114, 101, 99, 118]⟩, .string ⟨#[105, 114, 101, 99, 118]⟩, .string ⟨#[119, 97, 105, 116]⟩, .string ⟨#[119, 97, 105, 116, 97, 108, 108]⟩, .string ⟨#[119, 97, 105, 116, 97, 110, 121]⟩, .string ⟨#[116, 101, 115, 116]⟩, .string ⟨#[116, 101, 115, 116, 97, 110, 121]⟩, .string ⟨#[112, 114, 111, 98, 101]⟩, .string ⟨#[105, 112, 114, 111, 98, 101]⟩, .string ⟨#[98, 97, 114, 114, 105, 101, 114]⟩, .string ⟨#[98, 99, 97, 115, 116]⟩, .string ⟨#[114, 101, 100, 117, 99, 101]⟩, .string ⟨#[97, 108, 108, 114, 101, 100, 117, 99, 101]⟩, .string ⟨#[103, 97, 116, 104, 101, 114]⟩, .string ⟨#[100, 117, 112]⟩, .string ⟨#[115, 112, 108, 105, 116]⟩, .string ⟨#[102, 114, 101, 101]⟩]) (.int .u8 17)).run Tryd.prog w = .ok (.string (bytes (wordL 17))) w := fun w => word_at 16 w (by decide)
    clear hk
    go_enter Tryd.func21, Tryd.ntmps21
    go_wp2_with fail
    go_ret
    exact ⟨rfl, rfl⟩
  · have RI : ∀ w : World, (Instr.index 80 (.agg #[.string ⟨#[]⟩, .string ⟨#[115, 101, 110, 100]⟩, .string ⟨#[115, 115, 101, 110, 100]⟩, .string ⟨#[98, 115, 101, 110, 100]⟩, .string ⟨#[105, 115, 101, 110, 100]⟩, .string ⟨#[105, 115, 115, 101, 110, 100]⟩, .string ⟨#[114, 101, 99, 118]⟩, .string ⟨#[105, 114, 101, 99, 118]⟩, .string ⟨#[119, 97, 105, 116]⟩, .string ⟨#[119, 97, 105, 116, 97, 108, 108]⟩, .string ⟨#[119, 97, 105, 116, 97, 110, 121]⟩, .string ⟨#[116, 101, 115, 116]⟩, .string ⟨#[116, 101, 115, 116, 97, 110, 121]⟩, .string ⟨#[112, 114, 111, 98, 101]⟩, .string ⟨#[105, 112, 114, 111, 98, 101]⟩, .string ⟨#[98, 97, 114, 114, 105, 101, 114]⟩, .string ⟨#[98, 99, 97, 115, 116]⟩, .string ⟨#[114, 101, 100, 117, 99, 101]⟩, .string ⟨#[97, 108, 108, 114, 101, 100, 117, 99, 101]⟩, .string ⟨#[103, 97, 116, 104, 101, 114]⟩, .string ⟨#[100, 117, 112]⟩, .string ⟨#[115, 112, 108, 105, 116]⟩, .string ⟨#[102, 114, 101, 101]⟩]) (.int .u8 18)).run Tryd.prog w = .ok (.string (bytes (wordL 18))) w := fun w => word_at 17 w (by decide)
    clear hk
    go_enter Tryd.func21, Tryd.ntmps21
    go_wp2_with fail
    go_ret
    exact ⟨rfl, rfl⟩
  · have RI : ∀ w : World, (Instr.index 80 (.agg #[.string ⟨#[]⟩, .string ⟨#[115, 101, 110, 100]⟩, .string ⟨#[115, 115, 101, 110, 100]⟩, .string ⟨#[98, 115, 101, 110, 100]⟩, .string ⟨#[105, 115, 101, 110, 100]⟩, .string ⟨#[105, 115, 115, 101, 110, 100]⟩, .string ⟨#[114, 101, 99, 118]⟩, .string ⟨#[105, 114, 101, 99, 118]⟩, .string ⟨#[119, 97, 105, 116]⟩, .string ⟨#[119, 97, 105, 116, 97, 108, 108]⟩, .string ⟨#[119, 97, 105, 116, 97, 110, 121]⟩, .string ⟨#[116, 101, 115, 116]⟩, .string ⟨#[116, 101, 115, 116, 97, 110, 121]⟩, .string ⟨#[112, 114, 111, 98, 101]⟩, .string ⟨#[105, 112, 114, 111, 98, 101]⟩, .string ⟨#[98, 97, 114, 114, 105, 101, 114]⟩, .string ⟨#[98, 99, 97, 115, 116]⟩, .string ⟨#[114, 101, 100, 117, 99, 101]⟩, .string ⟨#[97, 108, 108, 114, 101, 100, 117, 99, 101]⟩, .string ⟨#[103, 97, 116, 104, 101, 114]⟩, .string ⟨#[100, 117, 112]⟩, .string ⟨#[115, 112, 108, 105, 116]⟩, .string ⟨#[102, 114, 101, 101]⟩]) (.int .u8 19)).run Tryd.prog w = .ok (.string (bytes (wordL 19))) w := fun w => word_at 18 w (by decide)
    clear hk
    go_enter Tryd.func21, Tryd.ntmps21
    go_wp2_with fail
    go_ret
    exact ⟨rfl, rfl⟩
  · have RI : ∀ w : World, (Instr.index 80 (.agg #[.string ⟨#[]⟩, .string ⟨#[115, 101, 110, 100]⟩, .string ⟨#[115, 115, 101, 110, 100]⟩, .string ⟨#[98, 115, 101, 110, 100]⟩, .string ⟨#[105, 115, 101, 110, 100]⟩, .string ⟨#[105, 115, 115, 101, 110, 100]⟩, .string ⟨#[114, 101, 99, 118]⟩, .string ⟨#[105, 114, 101, 99, 118]⟩, .string ⟨#[119, 97, 105, 116]⟩, .string ⟨#[119, 97, 105, 116, 97, 108, 108]⟩, .string ⟨#[119, 97, 105, 116, 97, 110, 121]⟩, .string ⟨#[116, 101, 115, 116]⟩, .string ⟨#[116, 101, 115, 116, 97, 110, 121]⟩, .string ⟨#[112, 114, 111, 98, 101]⟩, .string ⟨#[105, 112, 114, 111, 98, 101]⟩, .string ⟨#[98, 97, 114, 114, 105, 101, 114]⟩, .string ⟨#[98, 99, 97, 115, 116]⟩, .string ⟨#[114, 101, 100, 117, 99, 101]⟩, .string ⟨#[97, 108, 108, 114, 101, 100, 117, 99, 101]⟩, .string ⟨#[103, 97, 116, 104, 101, 114]⟩, .string ⟨#[100, 117, 112]⟩, .string ⟨#[115, 112, 108, 105, 116]⟩, .string ⟨#[102, 114, 101, 101]⟩]) (.int .u8 20)).run Tryd.prog w = .ok (.string (bytes (wordL 20))) w := fun w => word_at 19 w (by decide)
    clear hk
    go_enter Tryd.func21, Tryd.ntmps21
    go_wp2_with fail
    go_ret
    exact ⟨rfl, rfl⟩
  · have RI : ∀ w : World, (Instr.index 80 (.agg #[.string ⟨#[]⟩, .string ⟨#[115, 101, 110, 100]⟩, .string ⟨#[115, 115, 101, 110, 100]⟩, .string ⟨#[98, 115, 101, 110, 100]⟩, .string ⟨#[105, 115, 101, 110, 100]⟩, .string ⟨#[105, 115, 115, 101, 110, 100]⟩, .string ⟨#[114, 101, 99, 118]⟩, .string ⟨#[105, 114, 101, 99, 118]⟩, .string ⟨#[119, 97, 105, 116]⟩, .string ⟨#[119, 97, 105, 116, 97, 108, 108]⟩, .string ⟨#[119, 97, 105, 116, 97, 110, 121]⟩, .string ⟨#[116, 101, 115, 116]⟩, .string ⟨#[116, 101, 115, 116, 97, 110, 121]⟩, .string ⟨#[112, 114, 111, 98, 101]⟩, .string ⟨#[105, 112, 114, 111, 98, 101]⟩, .string ⟨#[98, 97, 114, 114, 105, 101, 114]⟩, .string ⟨#[98, 99, 97, 115, 116]⟩, .string ⟨#[114, 101, 100, 117, 99, 101]⟩, .string ⟨#[97, 108, 108, 114, 101, 100, 117, 99, 101]⟩, .string ⟨#[103, 97, 116, 104, 101, 114]⟩, .string ⟨#[100, 117, 112]⟩, .string ⟨#[115, 112, 108, 105, 116]⟩, .string ⟨#[102, 114, 101, 101]⟩]) (.int .u8 21)).run Tryd.prog w = .ok (.string (bytes (wordL 21))) w := fun w => word_at 20 w (by decide)
    clear hk
    go_enter Tryd.func21, Tryd.ntmps21
    go_wp2_with fail
    go_ret
    exact ⟨rfl, rfl⟩
  · have RI : ∀ w : World, (Instr.index 80 (.agg #[.string ⟨#[]⟩, .string ⟨#[115, 101, 110, 100]⟩, .string ⟨#[115, 115, 101, 110, 100]⟩, .string ⟨#[98, 115, 101, 110, 100]⟩, .string ⟨#[105, 115, 101, 110, 100]⟩, .string ⟨#[105, 115, 115, 101, 110, 100]⟩, .string ⟨#[114, 101, 99, 118]⟩, .string ⟨#[105, 114, 101, 99, 118]⟩, .string ⟨#[119, 97, 105, 116]⟩, .string ⟨#[119, 97, 105, 116, 97, 108, 108]⟩, .string ⟨#[119, 97, 105, 116, 97, 110, 121]⟩, .string ⟨#[116, 101, 115, 116]⟩, .string ⟨#[116, 101, 115, 116, 97, 110, 121]⟩, .string ⟨#[112, 114, 111, 98, 101]⟩, .string ⟨#[105, 112, 114, 111, 98, 101]⟩, .string ⟨#[98, 97, 114, 114, 105, 101, 114]⟩, .string ⟨#[98, 99, 97, 115, 116]⟩, .string ⟨#[114, 101, 100, 117, 99, 101]⟩, .string ⟨#[97, 108, 108, 114, 101, 100, 117, 99, 101]⟩, .string ⟨#[103, 97, 116, 104, 101, 114]⟩, .string ⟨#[100, 117, 112]⟩, .string ⟨#[115, 112, 108, 105, 116]⟩, .string ⟨#[102, 114, 101, 101]⟩]) (.int .u8 22)).run Tryd.prog w = .ok (.string (bytes (wordL 22))) w := fun w => word_at 21 w (by decide)
    clear hk
    go_enter Tryd.func21, Tryd.ntmps21
    go_wp2_with fail
    go_ret
    exact ⟨rfl, rfl⟩
set_option maxRecDepth 100000 in
set_option maxHeartbeats 8000000 in
theorem red_b (o : Int) (h : 0 ≤ o ∧ o ≤ 2) (w : World) : Calls Tryd.prog 32 #[.int .u8 o] w fun e w' => e = .returned (.string (bytes (redL o))) ∧ w' = w := by
  have hc : o = 0 ∨ o = 1 ∨ o = 2 := by omega
  rcases hc with rfl | rfl | rfl
  all_goals
    clear h
    go_enter Tryd.func32, Tryd.ntmps32
    go_wp2_with fail
    go_ret
    exact ⟨rfl, rfl⟩
set_option maxRecDepth 100000 in
set_option maxHeartbeats 8000000 in
theorem Reduces_b (k : Int) (w : World) : Calls Tryd.prog 37 #[.int .u8 k] w fun e w' => e = .returned (.bool (decide (redK k))) ∧ w' = w := by
  by_cases h1 : k = 17
  · subst h1
    go_enter Tryd.func37, Tryd.ntmps37
    go_wp2_with fail
    go_ret
    exact ⟨rfl, rfl⟩
  · have g1 : (k == 17) = false := by simpa using h1
    by_cases h2 : k = 18
    · subst h2
      go_enter Tryd.func37, Tryd.ntmps37
      go_wp2_with fail
      go_ret
      exact ⟨rfl, rfl⟩
    · have g2 : (k == 18) = false := by simpa using h2
      have e : decide (redK k) = false := decide_eq_false fun h => h.elim h1 h2
      rw [e]
      clear e h1 h2
      go_enter Tryd.func37, Tryd.ntmps37
      go_wp2_with fail
      go_ret
      exact ⟨rfl, rfl⟩
end Cal
end Go.Proofs.YthcoelkpiflfeaaDoor
