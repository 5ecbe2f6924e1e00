/- message, receive of the law. -/
import Derived.Test.YtonmojinijpneaaRows
import Derived.Test.YtonmojinijpneaaPoT
namespace Go.Proofs.Ytonmojinijpneaa
open Go Go.Joins Go.ChangeShapes Go.WideShapes Go.RowKit Go.Deep Go.Lib
set_option linter.unusedVariables false
set_option linter.unusedSimpArgs false
namespace Po
set_option maxRecDepth 100000 in
theorem message_c (a b : Int) (w : World) : Calls Try.prog 37 #[.int .i64 a, .int .i64 b] w fun e w' => e = .returned (.agg #[.string ⟨#[]⟩, .int .i64 1, .int .i64 0, .int .i64 a, .int .i64 b, .int .i64 0, .int .i64 1, .bool false]) ∧ Below w.heap.size w w' := by
  have HB := hide ((Below.refl w.heap.size w).alloc (Nat.le_refl _) (.cells #[.string ⟨#[]⟩, .int .i64 1, .int .i64 0, .int .i64 a, .int .i64 b, .int .i64 0, .int .i64 1, .bool false] 33))
  have kb := Blk.new w 33 #[.string ⟨#[]⟩, .int .i64 1, .int .i64 0, .int .i64 a, .int .i64 b, .int .i64 0, .int .i64 1, .bool false]
  have u0 := kb.cell 0
  have u1 := kb.cell 1
  have u2 := kb.cell 2
  have u3 := kb.cell 3
  have u4 := kb.cell 4
  have u5 := kb.cell 5
  have u6 := kb.cell 6
  have u7 := kb.cell 7
  clear kb
  go_enter Try.func37, Try.ntmps37
  go_wp2
  exact bodyPost_ret (v := .agg #[.string ⟨#[]⟩, .int .i64 1, .int .i64 0, .int .i64 a, .int .i64 b, .int .i64 0, .int .i64 1, .bool false]) (by simp [results, Try.results37, go_sem, u0, u1, u2, u3, u4, u5, u6, u7]) rfl ⟨rfl, HB.out⟩
set_option maxRecDepth 100000 in
theorem receive_c (a b c : Int) (w : World) : Calls Try.prog 38 #[.int .i64 a, .int .i64 b, .int .i64 c] w fun e w' => e = .returned (.agg #[.string ⟨#[]⟩, .int .i64 0, .int .i64 a, .int .i64 b, .int .i64 c, .int .i64 (-1), .bool false, .int .i64 0, .int .i64 0]) ∧ Below w.heap.size w w' := by
  have HB := hide ((Below.refl w.heap.size w).alloc (Nat.le_refl _) (.cells #[.string ⟨#[]⟩, .int .i64 0, .int .i64 a, .int .i64 b, .int .i64 c, .int .i64 (-1), .bool false, .int .i64 0, .int .i64 0] 35))
  have kb := Blk.new w 35 #[.string ⟨#[]⟩, .int .i64 0, .int .i64 a, .int .i64 b, .int .i64 c, .int .i64 (-1), .bool false, .int .i64 0, .int .i64 0]
  have u0 := kb.cell 0
  have u1 := kb.cell 1
  have u2 := kb.cell 2
  have u3 := kb.cell 3
  have u4 := kb.cell 4
  have u5 := kb.cell 5
  have u6 := kb.cell 6
  have u7 := kb.cell 7
  have u8 := kb.cell 8
  clear kb
  go_enter Try.func38, Try.ntmps38
  go_wp2
  exact bodyPost_ret (v := .agg #[.string ⟨#[]⟩, .int .i64 0, .int .i64 a, .int .i64 b, .int .i64 c, .int .i64 (-1), .bool false, .int .i64 0, .int .i64 0]) (by simp [results, Try.results38, go_sem, u0, u1, u2, u3, u4, u5, u6, u7, u8]) rfl ⟨rfl, HB.out⟩
end Po
end Go.Proofs.Ytonmojinijpneaa
