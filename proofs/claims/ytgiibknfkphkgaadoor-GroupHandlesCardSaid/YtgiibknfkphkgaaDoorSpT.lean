/- What comes in: acts, as they are read. -/
import Derived.Test.YtgiibknfkphkgaaDoorRows
import Derived.Test.YtgiibknfkphkgaaDoorSpN
namespace Go.Proofs.YtgiibknfkphkgaaDoor
open Go.Joins Go.ChangeShapes Go.WideShapes Go.RowKit Go.Deep
set_option linter.unusedVariables false
set_option linter.unusedSimpArgs false
namespace Grp
section
variable {H : Type} {enc : TypeId × Value → H} {w : World} {base : Nat} {spare : Nat → Bool} {held : Bool}
/-- An act that comes in. -/
structure Ac where
  kind : Int
  h : Int
  key : ByteArray
  A : Option Addr
  cap : Nat
  l : List Int
instance : Inhabited Ac := ⟨⟨0, 0, ⟨#[]⟩, none, 0, []⟩⟩
def Ac.at_ (w : World) (p : Addr) (x : Ac) : Prop :=
  w.cell? p = some (.int .u8 x.kind) ∧ w.cell? ⟨p.block, p.off + 1, none⟩ = some (.int .i64 x.h) ∧ w.cell? ⟨p.block, p.off + 2, none⟩ = some (.string x.key) ∧ w.cell? ⟨p.block, p.off + 3, none⟩ = some (.slice x.A x.l.length x.cap) ∧ NRow w x.A x.l ∧ 0 ≤ x.kind ∧ x.kind ≤ 255 ∧ p.block < w.heap.size
def Acts (w : World) (A : Option Addr) (n : Nat) (F : Nat → Ac) : Prop := ∀ i, i < n → ∃ a, A = some a ∧ (F i).at_ w (a.add (i * 4))
theorem Acts.below {w w' : World} {A : Option Addr} {n : Nat} {F : Nat → Ac} (h : Acts w A n F) (hb : Below w.heap.size w w') : Acts w' A n F := fun i hi => by
  obtain ⟨a, rfl, c0, c1, c2, c3, hr, k0, k1, hlt⟩ := h i hi
  exact ⟨a, rfl, (hb.cell hlt).trans c0, (hb.cell (p := ⟨_, _, none⟩) hlt).trans c1, (hb.cell (p := ⟨_, _, none⟩) hlt).trans c2, (hb.cell (p := ⟨_, _, none⟩) hlt).trans c3, hr.below hb, k0, k1, Nat.lt_of_lt_of_le hlt hb.size⟩
theorem add_lits (a : Addr) (j : Nat) (hj : 0 < j) : a.add j = ⟨a.block, a.off + j, none⟩ := by unfold Addr.add; rw [if_neg (by omega)]
set_option maxRecDepth 100000 in
theorem acts_of {v : Value} {d : DataW H} {p : List MemPlace} {b0 : Nat} (o : Value.okWide Tryd.prog w .any b0 49 v) (r : DataW.Trod enc Tryd.prog w base spare held 49 v d p) (hs : ∀ b, spare b = true) :
    ∃ (A : Option Addr) (n cap : Nat) (F : Nat → Ac), v = .slice A n cap ∧ n ≤ maxLen ∧ Acts w A n F := by
  obtain ⟨A0, n0, c0, rfl⟩ := okWide_slice Tryd.underlying49 o
  obtain ⟨fuel, hf⟩ := r
  rcases open_slice Tryd.underlying49 (show DataW.trod enc Tryd.prog w base spare held fuel 49 [.slice A0 n0 c0] = some (d, p) by simpa [Value.cells] using hf) with ⟨h0, _⟩ | ⟨a, len, cap, m, n, D, Pl, hcs, hb, hl, hm, hmm, hx, hi⟩
  · simp at h0
    obtain ⟨rfl, rfl, rfl⟩ := h0
    exact ⟨none, 0, 0, fun _ => default, rfl, Nat.zero_le _, fun i hi => absurd hi (Nat.not_lt_zero i)⟩
  · simp at hcs
    obtain ⟨rfl, rfl, rfl⟩ := hcs
    rw [hs, if_pos rfl] at hmm
    have hC : Tryd.prog.cellsOf 55 = 4 := by kernel_rfl
    have each : ∀ i, i < n0 → ∃ x : Ac, x.at_ w (a.add (i * 4)) := by
      intro i hil
      obtain ⟨cs', hc, ht⟩ := hi i (by omega)
      rw [hC] at hc
      obtain ⟨_, hcl, hat⟩ := World.cells?_some hc
      match cs', hcl with
      | [k0, k1, k2, k3], _ =>
        obtain ⟨xs, m', _, _, _, hlen, hg⟩ := DataW.trod_struct Tryd.underlying55 ht
        have hC5 : Tryd.prog.cellsOf 5 = 1 := by kernel_rfl
        have hC3 : Tryd.prog.cellsOf 3 = 1 := by kernel_rfl
        have hC2 : Tryd.prog.cellsOf 24 = 2 := by kernel_rfl
        have g0 : DataW.trod enc Tryd.prog w base spare held m' 5 (([k0, k1, k2, k3].drop 0).take (Tryd.prog.cellsOf 5)) = xs[0]? := hg 0 _ rfl
        have g1 : DataW.trod enc Tryd.prog w base spare held m' 3 (([k0, k1, k2, k3].drop 1).take (Tryd.prog.cellsOf 3)) = xs[1]? := hg 1 _ rfl
        have g2 : DataW.trod enc Tryd.prog w base spare held m' 24 (([k0, k1, k2, k3].drop 2).take (Tryd.prog.cellsOf 24)) = xs[2]? := hg 2 _ rfl
        rw [hC5, List.getElem?_eq_getElem (show 0 < xs.length by rw [hlen]; decide)] at g0
        rw [hC3, List.getElem?_eq_getElem (show 1 < xs.length by rw [hlen]; decide)] at g1
        rw [hC2, List.getElem?_eq_getElem (show 2 < xs.length by rw [hlen]; decide)] at g2
        have g0 : DataW.trod enc Tryd.prog w base spare held m' 5 [k0] = some (xs[0]'(by rw [hlen]; decide)) := g0
        have g1 : DataW.trod enc Tryd.prog w base spare held m' 3 [k1] = some (xs[1]'(by rw [hlen]; decide)) := g1
        have g2 : DataW.trod enc Tryd.prog w base spare held m' 24 [k2, k3] = some (xs[2]'(by rw [hlen]; decide)) := g2
        obtain ⟨z0, e0, _, w0⟩ := DataW.trod_int Tryd.underlying5 g0
        obtain ⟨z1, e1, _, w1⟩ := DataW.trod_int Tryd.underlying3 g1
        obtain ⟨key, A', row, cap', rfl, rfl, hr, _⟩ := group_cells g2 hs
        have q0 := hat 0 (by omega)
        have q1 := hat 1 (by omega)
        have q2 := hat 2 (by omega)
        have q3 := hat 3 (by omega)
        simp at e0 e1
        subst e0 e1
        have hw : 0 ≤ z0 ∧ z0 ≤ 255 := by
          simp [Lit.wf] at w0
          have h1 : IntKind.u8.min = 0 := rfl
          have h2 : IntKind.u8.max = 255 := rfl
          omega
        have q0' : w.cell? (a.add (i * 4)) = some (.int .u8 z0) := by simpa [Addr.add] using q0
        refine ⟨⟨z0, z1, key, A', cap', row⟩, q0', ?_, ?_, ?_, hr, hw.1, hw.2, block_lt_of_cell q0'⟩
        · rw [add_lits _ 1 (by omega)] at q1; exact q1
        · rw [add_lits _ 2 (by omega)] at q2; exact q2
        · rw [add_lits _ 3 (by omega)] at q3; exact q3
    obtain ⟨F, hF⟩ := choose_lt each
    exact ⟨some a, n0, c0, F, rfl, by omega, fun i hi => ⟨a, rfl, hF i hi⟩⟩
end
end Grp
end Go.Proofs.YtgiibknfkphkgaaDoor
