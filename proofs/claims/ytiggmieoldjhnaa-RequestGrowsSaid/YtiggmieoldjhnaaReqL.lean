/- What comes in: acts, as they are read; whether they are few. -/
import Derived.Test.YtiggmieoldjhnaaRows
import Derived.Test.YtiggmieoldjhnaaReqK
namespace Go.Proofs.Ytiggmieoldjhnaa
open Go.Joins Go.ChangeShapes Go.WideShapes Go.RowKit Go.Deep Go.Proofs.Ytiggmieoldjhnaa.Grp
set_option linter.unusedVariables false
set_option linter.unusedSimpArgs false
namespace Req
section
variable {H : Type} {enc : TypeId × Value → H} {w : World} {base : Nat} {spare : Nat → Bool} {held : Bool}
theorem row_low {fuel : Nat} {c : Value} {x : DataW H × List MemPlace} (h : DataW.trod enc Try.prog w base spare held fuel 27 [c] = some x) (hs : ∀ b, spare b = true) :
    ∃ (A : Option Addr) (row : List Int) (cap : Nat), c = .slice A row.length cap ∧ NRow w A row ∧ row.length ≤ cap ∧ (0 < row.length → ∀ a, A = some a → a.block < w.heap.size) := by
  rcases open_ints Try.underlying27 Try.underlying3 (by kernel_rfl) h with ⟨hcs, _⟩ | ⟨a, l, cap, zs, hcs, _, hl, hm, hz, hx, hcell, hwz⟩
  · simp at hcs
    exact ⟨none, [], 0, hcs, fun h => absurd h (Nat.lt_irrefl 0), Nat.le_refl _, fun h a ha => by cases ha⟩
  · rw [hs, if_pos rfl] at hz
    simp at hcs
    have hlz : (zs.take l).length = l := by rw [List.length_take, hz]; omega
    refine ⟨some a, zs.take l, cap, by rw [hlz]; exact hcs, fun h => ⟨a, rfl, ?_, fun j hj => ?_⟩, by rw [hlz]; exact hl, fun h b hb => ?_⟩
    · rw [hlz] at h
      have := block_lt_of_cell (hcell 0 (by omega))
      rwa [block_of_add] at this
    · rw [hlz] at hj
      rw [Grp.getD_take zs l j hj]
      exact hcell j (by omega)
    · cases hb
      rw [hlz] at h
      have := block_lt_of_cell (hcell 0 (by omega))
      rwa [block_of_add] at this
/-- An act that comes in. -/
structure Ac where
  kind : Int
  yes : Bool
  A : Option Addr
  cap : Nat
  l : List Int
  v : Int
  p : Int
  t : Int
instance : Inhabited Ac := ⟨⟨0, false, none, 0, [], 0, 0, 0⟩⟩
/-- The row's block is below n. -/
def Ac.low (n : Nat) (x : Ac) : Prop := x.l.length ≤ x.cap ∧ (0 < x.l.length → ∀ a, x.A = some a → a.block < n)
def Ac.at_ (w : World) (p : Addr) (x : Ac) : Prop :=
  w.cell? p = some (.int .u8 x.kind) ∧ w.cell? ⟨p.block, p.off + 1, none⟩ = some (.bool x.yes) ∧ w.cell? ⟨p.block, p.off + 2, none⟩ = some (.slice x.A x.l.length x.cap) ∧ w.cell? ⟨p.block, p.off + 3, none⟩ = some (.int .i64 x.v) ∧ w.cell? ⟨p.block, p.off + 4, none⟩ = some (.int .i64 x.p) ∧ w.cell? ⟨p.block, p.off + 5, none⟩ = some (.int .i64 x.t) ∧ NRow w x.A x.l ∧ 0 ≤ x.kind ∧ x.kind ≤ 255 ∧ p.block < w.heap.size
def Acts (w : World) (A : Option Addr) (n : Nat) (F : Nat → Ac) : Prop := ∀ i, i < n → ∃ a, A = some a ∧ (F i).at_ w (a.add (i * 6))
theorem Acts.below {w w' : World} {A : Option Addr} {n : Nat} {F : Nat → Ac} (h : Acts w A n F) (hb : Below w.heap.size w w') : Acts w' A n F := fun i hi => by
  obtain ⟨a, rfl, c0, c1, c2, c3, c4, c5, hr, k0, k1, hlt⟩ := h i hi
  exact ⟨a, rfl, (hb.cell hlt).trans c0, (hb.cell (p := ⟨_, _, none⟩) hlt).trans c1, (hb.cell (p := ⟨_, _, none⟩) hlt).trans c2, (hb.cell (p := ⟨_, _, none⟩) hlt).trans c3, (hb.cell (p := ⟨_, _, none⟩) hlt).trans c4, (hb.cell (p := ⟨_, _, none⟩) hlt).trans c5, hr.below hb, k0, k1, Nat.lt_of_lt_of_le hlt hb.size⟩
theorem add_lits (a : Addr) (j : Nat) (hj : 0 < j) : a.add j = ⟨a.block, a.off + j, none⟩ := by unfold Addr.add; rw [if_neg (by omega)]
set_option maxRecDepth 100000 in
theorem acts_of {v : Value} {d : DataW H} {p : List MemPlace} {b0 : Nat} (o : Value.okWide Try.prog w .any b0 22 v) (r : DataW.Trod enc Try.prog w base spare held 22 v d p) (hs : ∀ b, spare b = true) :
    ∃ (A : Option Addr) (n cap : Nat) (F : Nat → Ac), v = .slice A n cap ∧ n ≤ maxLen ∧ (∀ i, i < n → (F i).low w.heap.size) ∧ Acts w A n F := by
  obtain ⟨A0, n0, c0, rfl⟩ := okWide_slice Try.underlying22 o
  obtain ⟨fuel, hf⟩ := r
  rcases open_slice Try.underlying22 (show DataW.trod enc Try.prog w base spare held fuel 22 [.slice A0 n0 c0] = some (d, p) by simpa [Value.cells] using hf) with ⟨h0, _⟩ | ⟨a, len, cap, m, n, D, Pl, hcs, hb, hl, hm, hmm, hx, hi⟩
  · simp at h0
    obtain ⟨rfl, rfl, rfl⟩ := h0
    exact ⟨none, 0, 0, fun _ => default, rfl, Nat.zero_le _, fun i hi => absurd hi (Nat.not_lt_zero i), fun i hi => absurd hi (Nat.not_lt_zero i)⟩
  · simp at hcs
    obtain ⟨rfl, rfl, rfl⟩ := hcs
    rw [hs, if_pos rfl] at hmm
    have hC : Try.prog.cellsOf 29 = 6 := by kernel_rfl
    have each : ∀ i, i < n0 → ∃ x : Ac, x.low w.heap.size ∧ x.at_ w (a.add (i * 6)) := by
      intro i hil
      obtain ⟨cs', hc, ht⟩ := hi i (by omega)
      rw [hC] at hc
      obtain ⟨_, hcl, hat⟩ := World.cells?_some hc
      match cs', hcl with
      | [k0, k1, k2, k3, k4, k5], _ =>
        obtain ⟨xs, m', _, _, _, hlen, hg⟩ := DataW.trod_struct Try.underlying29 ht
        have hC5 : Try.prog.cellsOf 5 = 1 := by kernel_rfl
        have hCb : Try.prog.cellsOf 4 = 1 := by kernel_rfl
        have hCs : Try.prog.cellsOf 27 = 1 := by kernel_rfl
        have hC3 : Try.prog.cellsOf 3 = 1 := by kernel_rfl
        have hC6 : Try.prog.cellsOf 2 = 1 := by kernel_rfl
        have g0 : DataW.trod enc Try.prog w base spare held m' 5 (([k0, k1, k2, k3, k4, k5].drop 0).take (Try.prog.cellsOf 5)) = xs[0]? := hg 0 _ rfl
        have g1 : DataW.trod enc Try.prog w base spare held m' 4 (([k0, k1, k2, k3, k4, k5].drop 1).take (Try.prog.cellsOf 4)) = xs[1]? := hg 1 _ rfl
        have g2 : DataW.trod enc Try.prog w base spare held m' 27 (([k0, k1, k2, k3, k4, k5].drop 2).take (Try.prog.cellsOf 27)) = xs[2]? := hg 2 _ rfl
        have g3 : DataW.trod enc Try.prog w base spare held m' 2 (([k0, k1, k2, k3, k4, k5].drop 3).take (Try.prog.cellsOf 2)) = xs[3]? := hg 3 _ rfl
        have g4 : DataW.trod enc Try.prog w base spare held m' 3 (([k0, k1, k2, k3, k4, k5].drop 4).take (Try.prog.cellsOf 3)) = xs[4]? := hg 4 _ rfl
        have g5 : DataW.trod enc Try.prog w base spare held m' 3 (([k0, k1, k2, k3, k4, k5].drop 5).take (Try.prog.cellsOf 3)) = xs[5]? := hg 5 _ rfl
        rw [hC5, List.getElem?_eq_getElem (show 0 < xs.length by rw [hlen]; decide)] at g0
        rw [hCb, List.getElem?_eq_getElem (show 1 < xs.length by rw [hlen]; decide)] at g1
        rw [hCs, List.getElem?_eq_getElem (show 2 < xs.length by rw [hlen]; decide)] at g2
        rw [hC6, List.getElem?_eq_getElem (show 3 < xs.length by rw [hlen]; decide)] at g3
        rw [hC3, List.getElem?_eq_getElem (show 4 < xs.length by rw [hlen]; decide)] at g4
        rw [hC3, List.getElem?_eq_getElem (show 5 < xs.length by rw [hlen]; decide)] at g5
        have g0 : DataW.trod enc Try.prog w base spare held m' 5 [k0] = some (xs[0]'(by rw [hlen]; decide)) := g0
        have g1 : DataW.trod enc Try.prog w base spare held m' 4 [k1] = some (xs[1]'(by rw [hlen]; decide)) := g1
        have g2 : DataW.trod enc Try.prog w base spare held m' 27 [k2] = some (xs[2]'(by rw [hlen]; decide)) := g2
        have g3 : DataW.trod enc Try.prog w base spare held m' 2 [k3] = some (xs[3]'(by rw [hlen]; decide)) := g3
        have g4 : DataW.trod enc Try.prog w base spare held m' 3 [k4] = some (xs[4]'(by rw [hlen]; decide)) := g4
        have g5 : DataW.trod enc Try.prog w base spare held m' 3 [k5] = some (xs[5]'(by rw [hlen]; decide)) := g5
        obtain ⟨z0, e0, _, w0⟩ := DataW.trod_int Try.underlying5 g0
        obtain ⟨z1, e1, _⟩ := DataW.trod_bool Try.underlying4 g1
        obtain ⟨A', row, cap', e2, hr, hlo⟩ := row_low g2 hs
        obtain ⟨z3, e3, _, w3⟩ := DataW.trod_int Try.underlying2 g3
        obtain ⟨z4, e4, _, w4⟩ := DataW.trod_int Try.underlying3 g4
        obtain ⟨z5, e5, _, w5⟩ := DataW.trod_int Try.underlying3 g5
        have q0 := hat 0 (by omega)
        have q1 := hat 1 (by omega)
        have q2 := hat 2 (by omega)
        have q3 := hat 3 (by omega)
        have q4 := hat 4 (by omega)
        have q5 := hat 5 (by omega)
        simp at e0 e1 e3 e4 e5
        subst e0 e1 e2 e3 e4 e5
        have hw : 0 ≤ z0 ∧ z0 ≤ 255 := by
          simp [Lit.wf] at w0
          have h1 : IntKind.u8.min = 0 := rfl
          have h2 : IntKind.u8.max = 255 := rfl
          omega
        have q0' : w.cell? (a.add (i * 6)) = some (.int .u8 z0) := by simpa [Addr.add] using q0
        refine ⟨⟨z0, z1, A', cap', row, z3, z4, z5⟩, hlo, q0', ?_, ?_, ?_, ?_, ?_, hr, hw.1, hw.2, block_lt_of_cell q0'⟩
        · rw [add_lits _ 1 (by omega)] at q1; exact q1
        · rw [add_lits _ 2 (by omega)] at q2; exact q2
        · rw [add_lits _ 3 (by omega)] at q3; exact q3
        · rw [add_lits _ 4 (by omega)] at q4; exact q4
        · rw [add_lits _ 5 (by omega)] at q5; exact q5
    obtain ⟨F, hF⟩ := choose_lt each
    exact ⟨some a, n0, c0, F, rfl, by omega, fun i hi => (hF i hi).1, fun i hi => ⟨a, rfl, (hF i hi).2⟩⟩
end
end Req
end Go.Proofs.Ytiggmieoldjhnaa
