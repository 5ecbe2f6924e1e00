/- What comes in: a call whose numbers are such as the language has. -/
import Derived.Test.YthcoelkpiflfeaaDoorRows
import Derived.Test.YthcoelkpiflfeaaDoorCalW
import Derived.Test.YthcoelkpiflfeaaDoorCtP
namespace Go.Proofs.YthcoelkpiflfeaaDoor
open Go Go.Joins Go.ChangeShapes Go.WideShapes Go.RowKit Go.Deep Go.Proofs.YthcoelkpiflfeaaDoor.Grp
set_option linter.unusedVariables false
set_option linter.unusedSimpArgs false
namespace Cal
section
variable {H : Type} {enc : TypeId × Value → H} {w : World} {base : Nat} {spare : Nat → Bool} {held : Bool}
theorem wf_fit {z : Int} (h : (Lit.int .i64 z).wf = true) : Told.Fit z := by
  simp [Lit.wf] at h
  have h1 : IntKind.i64.min = -9223372036854775808 := rfl
  have h2 : IntKind.i64.max = 9223372036854775807 := rfl
  unfold Told.Fit
  omega
set_option maxRecDepth 100000 in
theorem row_ok {fuel : Nat} {c : Value} {x : DataW H × List MemPlace} (h : DataW.trod enc Tryd.prog w base spare held fuel 22 [c] = some x) (hs : ∀ b, spare b = true) :
    ∃ (A : Option Addr) (row : List Int) (cap : Nat), c = .slice A row.length cap ∧ NRow w A row ∧ (∀ z ∈ row, Told.Fit z) ∧ row.length ≤ cap := by
  rcases open_ints Tryd.underlying22 Tryd.underlying3 (by kernel_rfl) h with ⟨hcs, _⟩ | ⟨a, l, cap, zs, hcs, _, hl, hm, hz, _, hcell, hwz⟩
  · simp at hcs
    exact ⟨none, [], 0, hcs, fun h => absurd h (Nat.lt_irrefl 0), fun z hz => (by cases hz), Nat.le_refl _⟩
  · rw [hs, if_pos rfl] at hz
    simp at hcs
    have hlz : (zs.take l).length = l := by rw [List.length_take, hz]; omega
    refine ⟨some a, zs.take l, cap, by rw [hlz]; exact hcs, fun h => ⟨a, rfl, ?_, fun j hj => ?_⟩, fun z hzz => wf_fit (hwz z (List.mem_of_mem_take hzz)), by rw [hlz]; exact hl⟩
    · rw [hlz] at h
      have := block_lt_of_cell (hcell 0 (by omega))
      rwa [block_of_add] at this
    · rw [hlz] at hj
      rw [getD_take zs l j hj]
      exact hcell j (by omega)
set_option maxRecDepth 100000 in
/-- A call that comes in. -/
theorem call_in {v : Value} {d : DataW H} {p : List MemPlace} {b0 : Nat} (o : Value.okWide Tryd.prog w .any b0 24 v) (r : DataW.Trod enc Tryd.prog w base spare held 24 v d p) (hs : ∀ b, spare b = true) :
    ∃ (c : Cl) (ra : Option Addr) (rc : Nat), v = .agg (c.A ra rc) ∧ NRow w ra c.rq ∧ c.ok ∧ c.rq.length ≤ rc := by
  obtain ⟨c0, c1, c2, c3, c4, c5, c6, c7, c8, c9, c10, y0, y1, y2, y3, y4, y5, y6, y7, y8, y9, y10, fuel, rfl, h0, h1, h2, h3, h4, h5, h6, h7, h8, h9, h10⟩ := open_agg11 Tryd.underlying24 (by kernel_rfl) (by kernel_rfl) o r
  obtain ⟨k, e0, _, wk⟩ := DataW.trod_int Tryd.underlying5 h0
  obtain ⟨co, e1, _, w1⟩ := DataW.trod_int Tryd.underlying3 h1
  obtain ⟨pe, e2, _, w2⟩ := DataW.trod_int Tryd.underlying3 h2
  obtain ⟨tg, e3, _, w3⟩ := DataW.trod_int Tryd.underlying3 h3
  obtain ⟨va, e4, _, w4⟩ := DataW.trod_int Tryd.underlying2 h4
  obtain ⟨sz, e5, _, w5⟩ := DataW.trod_int Tryd.underlying3 h5
  obtain ⟨ro, e6, _, w6⟩ := DataW.trod_int Tryd.underlying3 h6
  obtain ⟨op, e7, _, hw⟩ := DataW.trod_int Tryd.underlying5 h7
  obtain ⟨ra, rq, rc, e8, hr, hrq, hrc⟩ := row_ok h8 hs
  obtain ⟨cl, e9, _, w9⟩ := DataW.trod_int Tryd.underlying3 h9
  obtain ⟨ky, e10, _, w10⟩ := DataW.trod_int Tryd.underlying3 h10
  simp at e0 e1 e2 e3 e4 e5 e6 e7 e9 e10
  subst e0 e1 e2 e3 e4 e5 e6 e7 e8 e9 e10
  simp [Lit.wf] at hw wk
  have h1 : IntKind.u8.min = 0 := rfl
  have h2 : IntKind.u8.max = 255 := rfl
  exact ⟨⟨k, co, pe, tg, va, sz, ro, op, rq, cl, ky⟩, ra, rc, rfl, hr, ⟨by show 0 ≤ k ∧ k ≤ 255; omega, by show 0 ≤ op ∧ op ≤ 255; omega, wf_fit w1, wf_fit w2, wf_fit w3, wf_fit w4, wf_fit w5, wf_fit w6, wf_fit w9, wf_fit w10, hrq⟩, hrc⟩
end
end Cal
end Go.Proofs.YthcoelkpiflfeaaDoor
