/- A row of numbers copied: append([]int{}, row...). -/
import Derived.Test.YtflaikhkddjfjaaRows
import Derived.Test.YtflaikhkddjfjaaOrdG
import Derived.Lib.AppendZeros
namespace Go.Proofs.Ytflaikhkddjfjaa
open Go Go.RowKit
set_option linter.unusedVariables false
set_option linter.unusedSimpArgs false
namespace Ord
theorem copy_int (w : World) (A : Option Addr) (cap n : Nat) (l : List Int) (hn : l.length = n) (hr : Rd w w.heap.size A l) (hl : n ≤ 1000) :
    ∃ A1 c1 w1, (Builtin.append_ #[28, 28] 28 #[.slice (some ⟨w.heap.size, 0, none⟩) 0 0, .slice A n cap]).run Try.prog (w.alloc (.cells #[] 3)) = .ok (.slice A1 n c1) w1 ∧
      w1.ownsRow w.heap.size 3 1 (.slice A1 n c1) n (ints l) ∧ Below w.heap.size w w1 := by
  have ba := (Below.refl w.heap.size w).alloc (Nat.le_refl _) (.cells #[] 3)
  have own0 : (w.alloc (.cells #[] 3)).ownsRow w.heap.size 3 1 (.slice (some ⟨w.heap.size, 0, none⟩) 0 0) 0 [] := ⟨rfl, .inr ⟨w.heap.size, 0, #[], rfl, Nat.le_refl _, heap_alloc_new w _, Nat.le_refl _, by unfold maxLen; omega, rfl, rfl⟩⟩
  have hrd := rd_on hr ba
  have hs1 : (w.alloc (.cells #[] 3)).heap.size = w.heap.size + 1 := by simp
  obtain ⟨Wz, hWz⟩ : ∃ x', w.alloc (.cells #[] 3) = x' := ⟨_, rfl⟩
  rw [hWz] at ba own0 hrd hs1 ⊢
  obtain ⟨i0, hi0, hz0', hz1, hz2⟩ := info_parts int_info
  subst hn
  obtain ⟨v11, w11, hrun, hown, hk11, hob⟩ := run_append_any (P := Try.prog) Wz w.heap.size 28 28 3 i0 _ 1 8 Try.underlying28 hi0 hz0' hz1 hz2 (by rfl) (by omega) _ _ _ own0 Wz.heap.size A l.length cap _ hrd (by intro u hu; obtain ⟨z, _, rfl⟩ := List.mem_map.1 (show u ∈ l.map (Value.int .i64) from hu); rfl) (by unfold maxLen; omega) (by omega) (by omega)
  rw [Nat.zero_add, List.nil_append] at hown
  obtain ⟨A11, c11, rfl⟩ := own_form hown
  exact ⟨A11, c11, w11, hrun, hown, ba.trans ((Below.refl w.heap.size Wz).grown hk11 (by omega) (fun k e => by
    have := (own_block own0 e).1
    omega))⟩
end Ord
end Go.Proofs.Ytflaikhkddjfjaa
