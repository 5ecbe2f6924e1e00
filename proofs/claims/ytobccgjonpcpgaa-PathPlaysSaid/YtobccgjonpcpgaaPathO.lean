/- A step appended to a row of steps that is owned. -/
import Derived.Test.YtobccgjonpcpgaaRows
import Derived.Test.YtobccgjonpcpgaaPathG
import Derived.Test.YtobccgjonpcpgaaPathJ
import Derived.Test.YtobccgjonpcpgaaPathM
import Derived.Deep.RegionWith
import Derived.BigRegion
namespace Go.Proofs.Ytobccgjonpcpgaa
open Go Go.RowKit
set_option linter.unusedVariables false
set_option linter.unusedSimpArgs false
namespace Pth
theorem app_sp (x : Sp) (B n ca : Nat) (av : Option Addr) (xs : List Value) (w2 : World) (ho : w2.ownsRow B 49 8 (.slice av n ca) n xs) (hB : B ≤ w2.heap.size) (hn : n ≤ 2000) :
    ∃ v' w', (Builtin.append_ #[45, 45] 45 #[.slice av n ca, .slice (some ⟨w2.heap.size, 0, none⟩) 1 1]).run Try.prog (w2.alloc (.cells #[.bool x.off, .int .i64 x.r, .int .i64 x.c, .int .i64 x.ch.r, .int .i64 x.ch.c, .int .i64 x.ch.f, .int .i64 x.ch.s, .int .i64 x.ch.v] 49)) = .ok v' w' ∧ w'.ownsRow B 49 8 v' (n + 1) (xs ++ spC x) ∧ Below B w2 w' := by
  obtain ⟨i0, hi0, hz0, hz1, hz2⟩ := info_parts step_info
  have hba := (Below.refl w2.heap.size w2).alloc (Nat.le_refl _) (.cells #[.bool x.off, .int .i64 x.r, .int .i64 x.c, .int .i64 x.ch.r, .int .i64 x.ch.c, .int .i64 x.ch.f, .int .i64 x.ch.s, .int .i64 x.ch.v] 49)
  have hbb := Blk.new w2 49 #[.bool x.off, .int .i64 x.r, .int .i64 x.c, .int .i64 x.ch.r, .int .i64 x.ch.c, .int .i64 x.ch.f, .int .i64 x.ch.s, .int .i64 x.ch.v]
  have own2 := own_belowR ho hba
  obtain ⟨W, hW⟩ : ∃ W, w2.alloc (.cells #[.bool x.off, .int .i64 x.r, .int .i64 x.c, .int .i64 x.ch.r, .int .i64 x.ch.c, .int .i64 x.ch.f, .int .i64 x.ch.s, .int .i64 x.ch.v] 49) = W := ⟨_, rfl⟩
  rw [hW] at hba hbb own2 ⊢
  have hrd : Reads W W.heap.size 8 (some ⟨w2.heap.size, 0, none⟩) 1 [.bool x.off, .int .i64 x.r, .int .i64 x.c, .int .i64 x.ch.r, .int .i64 x.ch.c, .int .i64 x.ch.f, .int .i64 x.ch.s, .int .i64 x.ch.v] := ⟨rfl, fun _ => ⟨_, rfl, hbb.lt, fun j u hu => by rw [add_lit, hbb.cell]; simpa using hu⟩⟩
  obtain ⟨v11, w11, hrun, hown, hk, _⟩ := run_append_any (P := Try.prog) W B 45 45 49 i0 _ 8 64 Try.underlying45 hi0 hz0 hz1 hz2 (by rfl) (by omega) _ _ _ own2 W.heap.size (some ⟨w2.heap.size, 0, none⟩) 1 1 _ hrd (by intro u hu; simp only [List.mem_cons, List.not_mem_nil, or_false] at hu; rcases hu with rfl | rfl | rfl | rfl | rfl | rfl | rfl | rfl <;> rfl) (by unfold maxLen; omega) (by omega) (Nat.le_trans hB hba.size)
  exact ⟨v11, w11, hrun, hown, (hba.mono hB).grown hk (Nat.le_trans hB hba.size) fun k e => by
    rcases ho.2 with ⟨e0, _⟩ | ⟨g', cap, cur, e0, hge, _⟩
    · rw [e0] at e; simp [Value.ownBlock] at e
    · rw [e0] at e
      obtain rfl : g' = k := by simpa [Value.ownBlock] using e
      exact hge⟩
end Pth
end Go.Proofs.Ytobccgjonpcpgaa
