/- Rows of choices as arguments: with their capacity; beginnings; the laid table of powers of ten. -/
import Derived.Test.YtnmaclpjddafnaaDoorRows
import Derived.Test.YtnmaclpjddafnaaDoorSignAw
import Derived.LaidMore
import Derived.Stop.Joined
namespace Go.Proofs.YtnmaclpjddafnaaDoor
open Go.Joins Go.ChangeShapes Go.WideShapes Go.RowKit Go.Deep
set_option linter.unusedVariables false
set_option linter.unusedSimpArgs false
set_option maxRecDepth 100000 in
theorem own_rowC {H : Type} {enc : TypeId × Value → H} {base : Nat} {W : World} {v : Value} {d : DataW H} {p : List MemPlace} (o : Value.okWide Tryd.prog W .any base 22 v) (r : DataW.Trod enc Tryd.prog W 0 (fun _ => true) true 22 v d p) :
    ∃ A l c, v = .slice A (List.length l) c ∧ CRow W A l ∧ l.length ≤ c ∧ c ≤ maxLen := by
  obtain ⟨A0, n0, c0, rfl⟩ := okWide_slice Tryd.underlying22 o
  obtain ⟨fuel, hf⟩ := r
  obtain ⟨A, l, c, hv, hR, h1, h2⟩ := CRow.of (show DataW.trod enc Tryd.prog W 0 (fun _ => true) true fuel 22 [.slice A0 n0 c0] = some (d, p) by simpa [Value.cells] using hf)
  exact ⟨A, l, c, hv, hR, h1, h2⟩
theorem crow_take {w : World} {A : Option Addr} {l : List Ch} {n : Nat} (h : CRow w A l) : CRow w A (l.take n) := by
  refine ⟨Nat.le_trans (by rw [List.length_take]; omega) h.1, fun h0 => ?_⟩
  rw [List.length_take] at h0
  obtain ⟨a, rfl, ha, hc⟩ := h.2 (by omega)
  refine ⟨a, rfl, ha, fun i hi => ?_⟩
  rw [List.length_take] at hi
  rw [List.getElem_take]
  exact hc i (by omega)
theorem Pow.of_laid {W : World} (h : laidMetH Tryd.prog [("math/bits.deBruijn32tab", Rows.laid_math_bits_deBruijn32tab), ("math/bits.deBruijn64tab", Rows.laid_math_bits_deBruijn64tab), ("internal/strconv.uint64pow10", Rows.laid_internal_strconv_uint64pow10)] W) : Pow W := by
  have h' : laidMet Tryd.prog [("math/bits.deBruijn32tab", Rows.laid_math_bits_deBruijn32tab), ("math/bits.deBruijn64tab", Rows.laid_math_bits_deBruijn64tab), ("internal/strconv.uint64pow10", Rows.laid_internal_strconv_uint64pow10)] W := h
  clear h
  obtain ⟨ps, ⟨_, _, _, _, _, _, _, _, _, _, ⟨_, _, _, _, _, _, _, _, _, _, ⟨g', t', cs, fuel, p, q, hg', ht', hvar, hd, _, _⟩, _⟩, _⟩, _⟩ := h'
  have hg : Tryd.prog.globalNamed "internal/strconv.uint64pow10" = some 0 := by kernel_rfl
  have hty : (Tryd.prog.globals[0]?).map (·.type) = some 100 := by kernel_rfl
  obtain rfl := Option.some.inj (hg.symm.trans hg')
  obtain rfl := Option.some.inj (hty.symm.trans ht')
  have hc := Lib.cells_of_tab (k := .u64) (zs := Lib.pow10Tab) Tryd.underlying100 Tryd.underlying80 (by kernel_rfl) (by kernel_rfl) hd
  have ht : Lib.TabIs Tryd.prog W "internal/strconv.uint64pow10" .u64 Lib.pow10Tab := by
    unfold Lib.TabIs
    rw [hvar, ← hc]
  refine ⟨ht, ?_⟩
  have h0 := ht.cell hg 0 (by decide)
  have := block_lt_of_cell h0
  exact Nat.lt_of_le_of_lt (Nat.zero_le _) this
end Go.Proofs.YtnmaclpjddafnaaDoor
