/- What comes in: calls, groups. -/
import Derived.Test.YthcoelkpiflfeaaDoorRows
import Derived.Test.YthcoelkpiflfeaaDoorCalD
import Derived.Test.YthcoelkpiflfeaaDoorGround
namespace Go.Proofs.YthcoelkpiflfeaaDoor
open Go Go.Joins Go.ChangeShapes Go.WideShapes Go.RowKit Go.Deep Go.Proofs.YthcoelkpiflfeaaDoor.Grp
set_option linter.unusedVariables false
set_option linter.unusedSimpArgs false
namespace Cal
section
variable {H : Type} {P : Program} {enc : TypeId × Value → H} {w : World} {base : Nat} {spare : Nat → Bool} {held : Bool}
theorem open_agg11 {r : Reach} {b0 : Nat} {t : TypeId} {f0 f1 f2 f3 f4 f5 f6 f7 f8 f9 f10 : Field} {v : Value} {d : DataW H} {p : List MemPlace} (hs : P.underlying t = some (.struct #[f0, f1, f2, f3, f4, f5, f6, f7, f8, f9, f10])) (hone : oneCellFields P #[f0, f1, f2, f3, f4, f5, f6, f7, f8, f9, f10] = true) (hC : P.cellsOf t = 11)
    (hv : Value.okWide P w r b0 t v) (h : DataW.Trod enc P w base spare held t v d p) :
    ∃ (v0 v1 v2 v3 v4 v5 v6 v7 v8 v9 v10 : Value) (y0 y1 y2 y3 y4 y5 y6 y7 y8 y9 y10 : DataW H × List MemPlace) (n : Nat), v = .agg #[v0, v1, v2, v3, v4, v5, v6, v7, v8, v9, v10] ∧ DataW.trod enc P w base spare held n f0.type [v0] = some y0 ∧ DataW.trod enc P w base spare held n f1.type [v1] = some y1 ∧ DataW.trod enc P w base spare held n f2.type [v2] = some y2 ∧ DataW.trod enc P w base spare held n f3.type [v3] = some y3 ∧ DataW.trod enc P w base spare held n f4.type [v4] = some y4 ∧ DataW.trod enc P w base spare held n f5.type [v5] = some y5 ∧ DataW.trod enc P w base spare held n f6.type [v6] = some y6 ∧ DataW.trod enc P w base spare held n f7.type [v7] = some y7 ∧ DataW.trod enc P w base spare held n f8.type [v8] = some y8 ∧ DataW.trod enc P w base spare held n f9.type [v9] = some y9 ∧ DataW.trod enc P w base spare held n f10.type [v10] = some y10 := by
  obtain ⟨cs, rfl, hsz⟩ := okWide_struct hs hv
  obtain ⟨l⟩ := cs
  match l, hsz.trans hC with
  | [c0, c1, c2, c3, c4, c5, c6, c7, c8, c9, c10], _ =>
    obtain ⟨fuel, hf⟩ := h
    obtain ⟨xs, n, _, hx, _, hlen, hg⟩ := DataW.trod_struct hs hf
    obtain ⟨o0, k0⟩ := hone_of hone 0 f0 rfl
    obtain ⟨o1, k1⟩ := hone_of hone 1 f1 rfl
    obtain ⟨o2, k2⟩ := hone_of hone 2 f2 rfl
    obtain ⟨o3, k3⟩ := hone_of hone 3 f3 rfl
    obtain ⟨o4, k4⟩ := hone_of hone 4 f4 rfl
    obtain ⟨o5, k5⟩ := hone_of hone 5 f5 rfl
    obtain ⟨o6, k6⟩ := hone_of hone 6 f6 rfl
    obtain ⟨o7, k7⟩ := hone_of hone 7 f7 rfl
    obtain ⟨o8, k8⟩ := hone_of hone 8 f8 rfl
    obtain ⟨o9, k9⟩ := hone_of hone 9 f9 rfl
    obtain ⟨o10, k10⟩ := hone_of hone 10 f10 rfl
    match xs, hlen with
    | [y0, y1, y2, y3, y4, y5, y6, y7, y8, y9, y10], _ =>
      exact ⟨c0, c1, c2, c3, c4, c5, c6, c7, c8, c9, c10, y0, y1, y2, y3, y4, y5, y6, y7, y8, y9, y10, n, rfl, by simpa [Value.cells, o0, k0] using hg 0 f0 rfl, by simpa [Value.cells, o1, k1] using hg 1 f1 rfl, by simpa [Value.cells, o2, k2] using hg 2 f2 rfl, by simpa [Value.cells, o3, k3] using hg 3 f3 rfl, by simpa [Value.cells, o4, k4] using hg 4 f4 rfl, by simpa [Value.cells, o5, k5] using hg 5 f5 rfl, by simpa [Value.cells, o6, k6] using hg 6 f6 rfl, by simpa [Value.cells, o7, k7] using hg 7 f7 rfl, by simpa [Value.cells, o8, k8] using hg 8 f8 rfl, by simpa [Value.cells, o9, k9] using hg 9 f9 rfl, by simpa [Value.cells, o10, k10] using hg 10 f10 rfl⟩
end
theorem getD_take (l : List Int) (n i : Nat) (h : i < n) : (l.take n).getD i 0 = l.getD i 0 := by
  rw [List.getD, List.getD, List.getElem?_take, if_pos h]
section
variable {H : Type} {enc : TypeId × Value → H} {w : World} {base : Nat} {spare : Nat → Bool} {held : Bool}
set_option maxRecDepth 100000 in
theorem row_of {fuel : Nat} {c : Value} {x : DataW H × List MemPlace} (h : DataW.trod enc Tryd.prog w base spare held fuel 22 [c] = some x) (hs : ∀ b, spare b = true) :
    ∃ (A : Option Addr) (row : List Int) (cap : Nat), c = .slice A row.length cap ∧ NRow w A row := by
  rcases open_ints Tryd.underlying22 Tryd.underlying3 (by kernel_rfl) h with ⟨hcs, _⟩ | ⟨a, l, cap, zs, hcs, _, hl, hm, hz, _, hcell, hwz⟩
  · simp at hcs
    exact ⟨none, [], 0, hcs, fun h => absurd h (Nat.lt_irrefl 0)⟩
  · rw [hs, if_pos rfl] at hz
    simp at hcs
    have hlz : (zs.take l).length = l := by rw [List.length_take, hz]; omega
    refine ⟨some a, zs.take l, cap, by rw [hlz]; exact hcs, fun h => ⟨a, rfl, ?_, fun j hj => ?_⟩⟩
    · rw [hlz] at h
      have := block_lt_of_cell (hcell 0 (by omega))
      rwa [block_of_add] at this
    · rw [hlz] at hj
      rw [getD_take zs l j hj]
      exact hcell j (by omega)
set_option maxRecDepth 100000 in
theorem group_cells {fuel : Nat} {c0 c1 : Value} {x : DataW H × List MemPlace} (h : DataW.trod enc Tryd.prog w base spare held fuel 37 [c0, c1] = some x) (hs : ∀ b, spare b = true) :
    ∃ (key : ByteArray) (A : Option Addr) (row : List Int) (cap : Nat), c0 = .string key ∧ c1 = .slice A row.length cap ∧ NRow w A row ∧ key.size ≤ maxLen := by
  obtain ⟨y0, y1, n, _, _, h0, h1⟩ := trod_struct2 Tryd.underlying37 h
  have hC3 : Tryd.prog.cellsOf 22 = 1 := by kernel_rfl
  have hC4 : Tryd.prog.cellsOf 9 = 1 := by kernel_rfl
  have h0' : DataW.trod enc Tryd.prog w base spare held n 9 (([c0, c1].drop 0).take (Tryd.prog.cellsOf 9)) = some y0 := h0
  have h1' : DataW.trod enc Tryd.prog w base spare held n 22 (([c0, c1].drop 1).take (Tryd.prog.cellsOf 22)) = some y1 := h1
  rw [hC4] at h0'
  rw [hC3] at h1'
  have h0' : DataW.trod enc Tryd.prog w base spare held n 9 [c0] = some y0 := h0'
  have h1' : DataW.trod enc Tryd.prog w base spare held n 22 [c1] = some y1 := h1'
  obtain ⟨key, e0, _, hk⟩ := DataW.trod_string Tryd.underlying9 h0'
  obtain rfl : c0 = .string key := by simpa using e0
  obtain ⟨A, row, cap, e1, hr⟩ := row_of h1' hs
  exact ⟨key, A, row, cap, rfl, e1, hr, hk⟩
set_option maxRecDepth 100000 in
theorem group_of {v : Value} {d : DataW H} {p : List MemPlace} {b0 : Nat} (o : Value.okWide Tryd.prog w .any b0 37 v) (r : DataW.Trod enc Tryd.prog w base spare held 37 v d p) (hs : ∀ b, spare b = true) :
    ∃ (key : ByteArray) (A : Option Addr) (row : List Int) (cap : Nat), v = .agg #[.string key, .slice A row.length cap] ∧ NRow w A row := by
  obtain ⟨cs, rfl, hsz⟩ := okWide_struct Tryd.underlying37 o
  obtain ⟨l⟩ := cs
  have hC : Tryd.prog.cellsOf 37 = 2 := by kernel_rfl
  match l, hsz.trans hC with
  | [c0, c1], _ =>
    obtain ⟨fuel, hf⟩ := r
    obtain ⟨key, A, row, cap, rfl, rfl, hr, _⟩ := group_cells (show DataW.trod enc Tryd.prog w base spare held fuel 37 [c0, c1] = some (d, p) from hf) hs
    exact ⟨key, A, row, cap, rfl, hr⟩
set_option maxRecDepth 100000 in
/-- A call that comes in. -/
theorem call_of {v : Value} {d : DataW H} {p : List MemPlace} {b0 : Nat} (o : Value.okWide Tryd.prog w .any b0 24 v) (r : DataW.Trod enc Tryd.prog w base spare held 24 v d p) (hs : ∀ b, spare b = true) :
    ∃ (c : Cl) (ra : Option Addr) (rc : Nat), v = .agg (c.A ra rc) ∧ NRow w ra c.rq ∧ 0 ≤ c.op ∧ c.op ≤ 255 := by
  obtain ⟨c0, c1, c2, c3, c4, c5, c6, c7, c8, c9, c10, y0, y1, y2, y3, y4, y5, y6, y7, y8, y9, y10, fuel, rfl, h0, h1, h2, h3, h4, h5, h6, h7, h8, h9, h10⟩ := open_agg11 Tryd.underlying24 (by kernel_rfl) (by kernel_rfl) o r
  obtain ⟨k, e0, _, _⟩ := DataW.trod_int Tryd.underlying5 h0
  obtain ⟨co, e1, _, _⟩ := DataW.trod_int Tryd.underlying3 h1
  obtain ⟨pe, e2, _, _⟩ := DataW.trod_int Tryd.underlying3 h2
  obtain ⟨tg, e3, _, _⟩ := DataW.trod_int Tryd.underlying3 h3
  obtain ⟨va, e4, _, _⟩ := DataW.trod_int Tryd.underlying2 h4
  obtain ⟨sz, e5, _, _⟩ := DataW.trod_int Tryd.underlying3 h5
  obtain ⟨ro, e6, _, _⟩ := DataW.trod_int Tryd.underlying3 h6
  obtain ⟨op, e7, _, hw⟩ := DataW.trod_int Tryd.underlying5 h7
  obtain ⟨ra, rq, rc, e8, hr⟩ := row_of h8 hs
  obtain ⟨cl, e9, _, _⟩ := DataW.trod_int Tryd.underlying3 h9
  obtain ⟨ky, e10, _, _⟩ := DataW.trod_int Tryd.underlying3 h10
  simp at e0 e1 e2 e3 e4 e5 e6 e7 e9 e10
  subst e0 e1 e2 e3 e4 e5 e6 e7 e8 e9 e10
  simp [Lit.wf] at hw
  have h1 : IntKind.u8.min = 0 := rfl
  have h2 : IntKind.u8.max = 255 := rfl
  exact ⟨⟨k, co, pe, tg, va, sz, ro, op, rq, cl, ky⟩, ra, rc, rfl, hr, by show 0 ≤ op; omega, by show op ≤ 255; omega⟩
end
end Cal
end Go.Proofs.YthcoelkpiflfeaaDoor
