/- A program among the arguments, as it is read. -/
import Derived.Test.YtegpimaakgledaaDoorRows
import Derived.Test.YtegpimaakgledaaDoorCodD
import Derived.Test.YtegpimaakgledaaDoorFlat
namespace Go.Proofs.YtegpimaakgledaaDoor
open Go.Joins Go.ChangeShapes Go.WideShapes Go.RowKit Go.Deep
set_option linter.unusedVariables false
set_option linter.unusedSimpArgs false
namespace Cod
def inK : List Kd := [.i .u8, .i .i64]
theorem u8_fit {v : Value} (h : (Kd.i .u8).fits v) : ∃ n, v = .int .u8 n ∧ 0 ≤ n ∧ n ≤ 255 := by
  obtain ⟨n, rfl, hw⟩ := h
  exact ⟨n, rfl, bounds_u8 hw⟩
theorem i64_fitc {v : Value} (h : (Kd.i .i64).fits v) : ∃ n, v = .int .i64 n ∧ -9223372036854775808 ≤ n ∧ n ≤ 9223372036854775807 := by
  obtain ⟨n, rfl, hw⟩ := h
  exact ⟨n, rfl, bounds_i64 hw⟩
section
variable {H : Type} {enc : TypeId × Value → H} {w : World} {base : Nat} {spare : Nat → Bool} {held : Bool}
theorem CodeAt.of {fuel : Nat} {v : Value} {x : DataW H × List MemPlace} (h : DataW.trod enc Tryd.prog w base spare held fuel 22 [v] = some x) :
    ∃ A l c, v = .slice A l.length c ∧ CodeAt w A l := by
  rcases flat_slice (ks := inK) (f := 30) Tryd.underlying22 (by kernel_rfl) (by kernel_rfl) h with h0 | ⟨a, len, cap, h0, hl, hm, hi⟩
  · obtain rfl : v = .slice none 0 0 := by simpa using h0
    exact ⟨none, [], 0, rfl, fun h => absurd h (Nat.lt_irrefl 0)⟩
  · obtain rfl : v = .slice (some a) len cap := by simpa using h0
    have h : ∀ i, i < len → ∃ t : In, t.ok ∧ w.cell? (a.add (i * 2)) = some (.int .u8 t.op) ∧ w.cell? ⟨(a.add (i * 2)).block, (a.add (i * 2)).off + 1, none⟩ = some (.int .i64 t.n) := by
      intro i hik
      obtain ⟨v0, g0, f0⟩ := hi i hik 0 _ rfl
      obtain ⟨v1, g1, f1⟩ := hi i hik 1 _ rfl
      obtain ⟨z0, rfl, k0⟩ := u8_fit f0
      obtain ⟨z1, rfl, k1⟩ := i64_fitc f1
      rw [← Go.Deep.add_add] at g1
      exact ⟨⟨z0, z1⟩, ⟨k0.1, k0.2, k1.1, k1.2⟩, g0, g1⟩
    obtain ⟨T, hT⟩ := choose_lt h
    have hlen : ((List.range len).map T).length = len := by simp
    refine ⟨some a, (List.range len).map T, cap, by rw [hlen], fun h0 => ⟨a, rfl, ?_, fun i hi' => ?_⟩⟩
    · rw [hlen] at h0
      obtain ⟨_, g, _⟩ := hT 0 h0
      have := block_lt_of_cell g
      rwa [block_of_add] at this
    · rw [hlen] at hi'
      simp only [List.getElem_map, List.getElem_range]
      exact hT i hi'
theorem IntAt.of {fuel : Nat} {c : Value} {x : DataW H × List MemPlace} (h : DataW.trod enc Tryd.prog w base spare held fuel 23 [c] = some x) :
    ∃ A l cap, c = .slice A l.length cap ∧ IntAt w A l := by
  rcases flat_slice (ks := [.i .i64]) (f := 30) Tryd.underlying23 (by kernel_rfl) (by kernel_rfl) h with h0 | ⟨a, len, cap, h0, hl, hm, hi⟩
  · obtain rfl : c = .slice none 0 0 := by simpa using h0
    exact ⟨none, [], 0, rfl, fun h => absurd h (Nat.lt_irrefl 0)⟩
  · obtain rfl : c = .slice (some a) len cap := by simpa using h0
    have h : ∀ i, i < len → ∃ t : Int, w.cell? (a.add i) = some (.int .i64 t) ∧ -9223372036854775808 ≤ t ∧ t ≤ 9223372036854775807 := by
      intro i hik
      obtain ⟨v0, g0, f0⟩ := hi i hik 0 _ rfl
      obtain ⟨z0, rfl, k0⟩ := i64_fitc f0
      rw [show i * ([.i .i64] : List Kd).length + 0 = i by simp] at g0
      exact ⟨z0, g0, k0⟩
    obtain ⟨T, hT⟩ := choose_lt h
    have hlen : ((List.range len).map T).length = len := by simp
    refine ⟨some a, (List.range len).map T, cap, by rw [hlen], fun h0 => ⟨a, rfl, ?_, fun i hi' => ?_⟩⟩
    · rw [hlen] at h0
      have := block_lt_of_cell (hT 0 h0).1
      rwa [block_of_add] at this
    · rw [hlen] at hi'
      simp only [List.getElem_map, List.getElem_range]
      exact hT i hi'
theorem prog_cells {fuel : Nat} {c0 c1 c2 : Value} {x : DataW H × List MemPlace} (h : DataW.trod enc Tryd.prog w base spare held fuel 25 [c0, c1, c2] = some x) :
    ∃ C cs cc vars A l ca, c0 = .slice C cs.length cc ∧ c1 = .int .i64 vars ∧ c2 = .slice A l.length ca ∧ CodeAt w C cs ∧ IntAt w A l ∧ -9223372036854775808 ≤ vars ∧ vars ≤ 9223372036854775807 := by
  obtain ⟨y0, y1, y2, n, _, _, h0, h1, h2⟩ := trod_struct3 Tryd.underlying25 h
  have hC0 : Tryd.prog.cellsOf 22 = 1 := by kernel_rfl
  have hC1 : Tryd.prog.cellsOf 3 = 1 := by kernel_rfl
  have hC2 : Tryd.prog.cellsOf 23 = 1 := by kernel_rfl
  have h0' : DataW.trod enc Tryd.prog w base spare held n 22 (([c0, c1, c2].drop 0).take (Tryd.prog.cellsOf 22)) = some y0 := h0
  have h1' : DataW.trod enc Tryd.prog w base spare held n 3 (([c0, c1, c2].drop 1).take (Tryd.prog.cellsOf 3)) = some y1 := h1
  have h2' : DataW.trod enc Tryd.prog w base spare held n 23 (([c0, c1, c2].drop 2).take (Tryd.prog.cellsOf 23)) = some y2 := h2
  rw [hC0] at h0'
  rw [hC1] at h1'
  rw [hC2] at h2'
  obtain ⟨C, cs, cc, e0, hC⟩ := CodeAt.of (v := c0) h0'
  obtain ⟨A, l, ca, e2, hA⟩ := IntAt.of (c := c2) h2'
  have h1' : DataW.trod enc Tryd.prog w base spare held n 3 [c1] = some y1 := h1'
  obtain ⟨vars, e1, _, hw⟩ := DataW.trod_int Tryd.underlying3 h1'
  obtain rfl : c1 = .int .i64 vars := by simpa using e1
  have hv := bounds_i64 hw
  exact ⟨C, cs, cc, vars, A, l, ca, e0, rfl, e2, hC, hA, hv.1, hv.2⟩
set_option maxRecDepth 100000 in
theorem PrV.of {v : Value} {d : DataW H} {p : List MemPlace} {b0 : Nat} (o : Value.okWide Tryd.prog w .any b0 25 v) (r : DataW.Trod enc Tryd.prog w base spare held 25 v d p) :
    ∃ C cs cc vars A l ca, v = PrV C (List.length cs) cc vars A (List.length l) ca ∧ CodeAt w C cs ∧ IntAt w A l ∧ -9223372036854775808 ≤ vars ∧ vars ≤ 9223372036854775807 := by
  obtain ⟨cs, rfl, hsz⟩ := okWide_struct Tryd.underlying25 o
  obtain ⟨l⟩ := cs
  have hC : Tryd.prog.cellsOf 25 = 3 := by kernel_rfl
  match l, hsz.trans hC with
  | [c0, c1, c2], _ =>
    obtain ⟨fuel, hf⟩ := r
    obtain ⟨C, cs, cc, vars, A, l, ca, rfl, rfl, rfl, h1, h2, h3⟩ := prog_cells (show DataW.trod enc Tryd.prog w base spare held fuel 25 [c0, c1, c2] = some (d, p) from hf)
    exact ⟨C, cs, cc, vars, A, l, ca, rfl, h1, h2, h3⟩
end
end Cod
end Go.Proofs.YtegpimaakgledaaDoor
