/- slices.Compact at choices. -/
import Derived.Test.YtnmaclpjddafnaaRows
import Derived.Test.YtnmaclpjddafnaaSignG
import Derived.Test.YtnmaclpjddafnaaSignRw
import Derived.Lib.SlicesCompact
import Derived.Lib.SliceRun
import Derived.Shelf.GgSortFunc.RowK
import Derived.Shelf.SlicesQ.Reverse
import Derived.BigQuiet
namespace Go.Proofs.Ytnmaclpjddafnaa
open Go Go.RowKit Go.Sort Go.Lib
set_option linter.unusedVariables false
set_option linter.unusedSimpArgs false
namespace Jn
theorem eqCh2 (x y : Ch) (w : World) : (binOp .eql 24 (.agg #[.int .i64 x.r, .int .i64 x.c, .int .i64 x.f, .int .i64 x.s, .int .i64 x.v]) (.agg #[.int .i64 y.r, .int .i64 y.c, .int .i64 y.f, .int .i64 y.s, .int .i64 y.v])).run Try.prog w = .ok (.bool (decide (x = y))) w := by
  have u_int := Try.underlying3; have a_int := Try.isAgg3; have z_int := Try.sizeOf3
  have hS : Try.prog.underlying 24 = some (.struct (Try.prog.fieldsOf 24)) := by kernel_rfl
  have hp : Try.prog.stoodInHeld 24 = false := by kernel_rfl
  rw [run_eql_struct, show (10000 : Nat) = 9999 + 1 from rfl, run_equalIn_agg w 9999 24 _ _ hS hp]
  simp only [Program.fieldsOf, Try.underlying24]
  clear hS hp
  go_simp
  obtain ⟨x0, x1, x2, x3, x4⟩ := x
  obtain ⟨y0, y1, y2, y3, y4⟩ := y
  dsimp only
  by_cases h0 : x0 = y0
  rotate_left
  · simp [h0]
  subst h0
  by_cases h1 : x1 = y1
  rotate_left
  · simp [h1]
  subst h1
  by_cases h2 : x2 = y2
  rotate_left
  · simp [h2]
  subst h2
  by_cases h3 : x3 = y3
  rotate_left
  · simp [h3]
  subst h3
  by_cases h4 : x4 = y4
  rotate_left
  · simp [h4]
  subst h4
  simp
theorem setMany_one (d : Array Ch) (i : Nat) (x : Ch) (hi : i < d.size) : setMany (flatK chC 5 d) (i * 5) (chC x) = flatK chC 5 (d.setIfInBounds i x) := by
  refine ext_get! (by simp) fun t ht => ?_
  have ht' : t < d.size * 5 := by simpa using ht
  rw [get_setMany _ _ _ t (by simpa using ht'), get_flatK _ _ _ t ht', get_flatK _ _ _ t (by simpa using ht'), chC_len]
  by_cases a : t / 5 = i
  · rw [if_pos ((blk_iff 5 i t (by omega)).2 a), show t - i * 5 = t % 5 by omega, a, getElem!_set_same d i x hi]
  · rw [if_neg (fun h => a ((blk_iff 5 i t (by omega)).1 h)), getElem!_set_other d i (t / 5) x a]
/-- A choice stored at a place of the row. -/
theorem store_ch {w wr : World} {q g : Nat} {d : Array Ch} (i : Nat) (x : Ch) (hi : i < d.size) (h : wr = putRowK chC 5 (Sort.ahead w q) g 0 d) :
    (((((wr.setCell ⟨g, i * 5, none⟩ (.int .i64 x.r)).setCell ⟨g, i * 5 + 1, none⟩ (.int .i64 x.c)).setCell ⟨g, i * 5 + 2, none⟩ (.int .i64 x.f)).setCell ⟨g, i * 5 + 3, none⟩ (.int .i64 x.s)).setCell ⟨g, i * 5 + 4, none⟩ (.int .i64 x.v)) = putRowK chC 5 (Sort.ahead w q) g 0 (d.setIfInBounds i x) := by
  subst h
  unfold putRowK
  rw [← setMany_one d i x hi, ← setCells_putRow _ _ _ _ _ _ (by rw [chC_len, size_flatK]; omega), Nat.zero_add]
  rfl
theorem chZ_cells : ∀ n : Nat, (Builtin.zeroCells #[.int .i64 0, .int .i64 0, .int .i64 0, .int .i64 0, .int .i64 0] n).toList.length = n * 5 ∧ ∀ v ∈ (Builtin.zeroCells #[.int .i64 0, .int .i64 0, .int .i64 0, .int .i64 0, .int .i64 0] n).toList, v.oneCell' = true := fun n => by
  unfold Builtin.zeroCells
  refine ⟨by simp [Nat.mul_comm], fun v hv => ?_⟩
  simp at hv
  obtain ⟨a, _, rfl⟩ := hv
  have : a % 5 = 0 ∨ a % 5 = 1 ∨ a % 5 = 2 ∨ a % 5 = 3 ∨ a % 5 = 4 := by omega
  rcases this with h | h | h | h | h <;> simp [h, Value.oneCell']
theorem run_clear_ch (w : World) (ty : TypeId) (g o n c : Nat) (hn : 0 < n) (hc : ∀ j, j < n * 5 → (w.cell? ⟨g, o + j, none⟩).isSome = true) (hf : ∀ j, j < n * 5 → w.frozen? ⟨g, o + j, none⟩ = false) :
    (Builtin.clear_ #[22] ty #[.slice (some ⟨g, o, none⟩) n c]).run Try.prog w = .ok (.tuple #[]) (w.setCells g o (Builtin.zeroCells #[.int .i64 0, .int .i64 0, .int .i64 0, .int .i64 0, .int .i64 0] n).toList) := by
  have hst := run_storeCells_cells (P := Try.prog) g o (Builtin.zeroCells #[.int .i64 0, .int .i64 0, .int .i64 0, .int .i64 0, .int .i64 0] n).toList 0 w (by rw [(chZ_cells n).1]; simpa using hc) (by rw [(chZ_cells n).1]; simpa using hf) (chZ_cells n).2
  simp only [Nat.add_zero] at hst
  have hv : (zeroValue 24).run Try.prog w = .ok chZ w := by kernel_rfl
  obtain ⟨m, rfl⟩ : ∃ m, n = m + 1 := ⟨n - 1, by omega⟩
  have hz : Value.cells chZ = #[.int .i64 0, .int .i64 0, .int .i64 0, .int .i64 0, .int .i64 0] := rfl
  simp [Builtin.clear_, run_underlying Try.underlying22, hv, hst, hz]
theorem grown_put (w : World) (g q : Nat) (F : Array Value) : w.grownBy (putRow id (Sort.ahead w q) g 0 F) (some g) := by
  refine ⟨rfl, rfl, rfl, ?_, fun k hk hne => ?_⟩
  · simp [putRow, mapBlock, Sort.ahead]
  · have hkg : g ≠ k := fun e => hne (by rw [e])
    simp [putRow, mapBlock, Sort.ahead]
    rw [Array.getElem?_modify, if_neg hkg]
end Jn
end Go.Proofs.Ytnmaclpjddafnaa
