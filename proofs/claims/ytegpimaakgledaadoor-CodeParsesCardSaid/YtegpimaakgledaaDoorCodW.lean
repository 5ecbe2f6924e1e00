/- A number put behind a program's own row of arrays; a program's own row cut at its end. -/
import Derived.Test.YtegpimaakgledaaDoorRows
import Derived.Test.YtegpimaakgledaaDoorCodV
namespace Go.Proofs.YtegpimaakgledaaDoor
open Go Go.RowKit
set_option linter.unusedVariables false
set_option linter.unusedSimpArgs false
namespace Cod
theorem intCs_app (a b : List Int) : intCs (a ++ b) = intCs a ++ intCs b := by simp [intCs]
theorem push_int (w : World) (B : Nat) (A : Option Addr) (cap n : Nat) (l : List Int) (x : Int) (hn : l.length = n) (h : w.ownsRow B 3 1 (.slice A n cap) n (intCs l)) (hB : B ≤ w.heap.size) (hl : n ≤ 100000) :
    ∃ A1 c1 w1, (Builtin.append_ #[23, 23] 23 #[.slice A n cap, .slice (some ⟨w.heap.size, 0, none⟩) 1 1]).run Tryd.prog (w.alloc (.cells #[.int .i64 x] 3)) = .ok (.slice A1 (n + 1) c1) w1 ∧
      w1.ownsRow B 3 1 (.slice A1 (n + 1) c1) (n + 1) (intCs (l ++ [x])) ∧ Below B w w1 ∧ KeepsBut [3] w w1 := by
  have ba := (Below.refl w.heap.size w).alloc (Nat.le_refl _) (.cells #[.int .i64 x] 3)
  have kb := Blk.new w 3 #[.int .i64 x]
  have ow := own_belowR h ba
  have hs1 : (w.alloc (.cells #[.int .i64 x] 3)).heap.size = w.heap.size + 1 := by simp
  obtain ⟨Wz, hWz⟩ : ∃ x', w.alloc (.cells #[.int .i64 x] 3) = x' := ⟨_, rfl⟩
  rw [hWz] at ba kb ow hs1 ⊢
  have hrd : Reads Wz Wz.heap.size 1 (some ⟨w.heap.size, 0, none⟩) 1 [.int .i64 x] := ⟨rfl, fun _ => ⟨_, rfl, kb.lt, fun j u hu => by rw [add_lit, kb.cell]; simpa using hu⟩⟩
  obtain ⟨i0, hi0, hz0', hz1, hz2⟩ := info_parts cint_info
  obtain ⟨v11, w11, hrun, hown, hk11, hob⟩ := run_append_any (P := Tryd.prog) Wz B 23 23 3 i0 _ 1 8 Tryd.underlying23 hi0 hz0' hz1 hz2 (by rfl) (by omega) _ _ _ ow Wz.heap.size (some ⟨w.heap.size, 0, none⟩) 1 1 _ hrd (by intro u hu; rw [List.mem_singleton.1 hu]; rfl) (by unfold maxLen; omega) (by omega) (by omega)
  obtain ⟨A11, c11, rfl⟩ := slice_of_own hown
  exact ⟨A11, c11, w11, hrun, by rw [intCs_app]; exact hown, (ba.mono hB).grown hk11 (by omega) (fun g e => (own_block h e).1), (KeepsBut.of_below ba).trans (grown_keeps ow hk11)⟩
theorem codeCs_take (cs : List In) (k : Nat) (hk : k ≤ cs.length) : (codeCs cs).take (k * 2) = codeCs (cs.take k) := by
  have e : codeCs cs = codeCs (cs.take k) ++ codeCs (cs.drop k) := by
    unfold codeCs
    rw [← List.flatMap_append, List.take_append_drop]
  have hl : (codeCs (cs.take k)).length = k * 2 := by rw [codeCs_len, List.length_take, Nat.min_eq_left hk]
  rw [e, ← hl, List.take_left']
  rfl
theorem cut_code {w : World} {B c n k : Nat} {A : Option Addr} {cs : List In} (h : w.ownsRow B 47 2 (.slice A n c) n (codeCs cs)) (hk : k ≤ n) (hn : cs.length = n) : w.ownsRow B 47 2 (.slice A k c) k (codeCs (cs.take k)) := by
  rw [← codeCs_take cs k (by omega)]
  exact own_cut h hk
end Cod
end Go.Proofs.YtegpimaakgledaaDoor
