/- Rows of picks that are read. -/
import Derived.Test.YtaakndenkfkijaaDoorRows
import Derived.Test.YtaakndenkfkijaaDoorFlat
import Derived.Test.YtaakndenkfkijaaDoorWitP
namespace Go.Proofs.YtaakndenkfkijaaDoor
open Go.Joins Go.ChangeShapes Go.WideShapes Go.RowKit Go.Deep
set_option linter.unusedVariables false
set_option linter.unusedSimpArgs false
namespace Wit
theorem i64_fit {v : Value} (h : Kd.fits (.i .i64) v) : ∃ n, v = .int .i64 n ∧ Fit n := by
  obtain ⟨n, rfl, hw⟩ := h
  refine ⟨n, rfl, ?_⟩
  simp [Lit.wf] at hw
  have h1 : IntKind.i64.min = -9223372036854775808 := rfl
  have h2 : IntKind.i64.max = 9223372036854775807 := rfl
  unfold Fit
  omega
def PkAt (w : World) (a : Addr) (i : Nat) (t : Pk) : Prop :=
  w.cell? (a.add (i * 6)) = some (.int .u8 t.k) ∧ w.cell? ⟨(a.add (i * 6)).block, (a.add (i * 6)).off + 1, none⟩ = some (.int .i64 t.r) ∧ w.cell? ⟨(a.add (i * 6)).block, (a.add (i * 6)).off + 2, none⟩ = some (.int .i64 t.c) ∧ w.cell? ⟨(a.add (i * 6)).block, (a.add (i * 6)).off + 3, none⟩ = some (.int .i64 t.f) ∧
    w.cell? ⟨(a.add (i * 6)).block, (a.add (i * 6)).off + 4, none⟩ = some (.int .i64 t.s) ∧ w.cell? ⟨(a.add (i * 6)).block, (a.add (i * 6)).off + 5, none⟩ = some (.int .i64 t.v)
def PRow (w : World) (A : Option Addr) (l : List Pk) : Prop :=
  l.length ≤ maxLen ∧ (0 < l.length → ∃ a, A = some a ∧ a.block < w.heap.size ∧ ∀ i (h : i < l.length), l[i].ok ∧ PkAt w a i l[i])
theorem PkAt.keep {w w' : World} {a : Addr} {i : Nat} {t : Pk} (hk : ∀ p : Addr, p.block < w.heap.size → w'.cell? p = w.cell? p) (ha : a.block < w.heap.size) (h : PkAt w a i t) : PkAt w' a i t := by
  have e : (a.add (i * 6)).block < w.heap.size := by rw [block_of_add]; exact ha
  obtain ⟨h0, h1, h2, h3, h4, h5⟩ := h
  have k : ∀ j, w'.cell? ⟨(a.add (i * 6)).block, (a.add (i * 6)).off + j, none⟩ = w.cell? ⟨(a.add (i * 6)).block, (a.add (i * 6)).off + j, none⟩ := fun j => hk ⟨(a.add (i * 6)).block, (a.add (i * 6)).off + j, none⟩ e
  exact ⟨(hk _ e).trans h0, (k 1).trans h1, (k 2).trans h2, (k 3).trans h3, (k 4).trans h4, (k 5).trans h5⟩
theorem PRow.below {w w' : World} {A : Option Addr} {l : List Pk} (h : PRow w A l) (hb : Below w.heap.size w w') : PRow w' A l := by
  refine ⟨h.1, fun h0 => ?_⟩
  obtain ⟨a, rfl, ha, hc⟩ := h.2 h0
  exact ⟨a, rfl, Nat.lt_of_lt_of_le ha hb.size, fun i hi => ⟨(hc i hi).1, (hc i hi).2.keep (fun p hp => hb.cell hp) ha⟩⟩
theorem PRow.at_ {w : World} {A : Option Addr} {l : List Pk} (h : PRow w A l) {i : Nat} (hi : i < l.length) : ∃ a, A = some a ∧ a.block < w.heap.size ∧ l[i].ok ∧ PkAt w a i l[i] := by
  obtain ⟨a, rfl, ha, hc⟩ := h.2 (by omega)
  exact ⟨a, rfl, ha, hc i hi⟩
def pkK : List Kd := [.i .u8, .i .i64, .i .i64, .i .i64, .i .i64, .i .i64]
section
variable {H : Type} {enc : TypeId × Value → H} {w : World} {base : Nat} {spare : Nat → Bool} {held : Bool}
theorem PRow.of {fuel : Nat} {v : Value} {x : DataW H × List MemPlace} (h : DataW.trod enc Tryd.prog w base spare held fuel 22 [v] = some x) :
    ∃ A l c, v = .slice A l.length c ∧ PRow w A l ∧ l.length ≤ c ∧ c ≤ maxLen := by
  rcases flat_slice (ks := pkK) (f := 30) Tryd.underlying22 (by kernel_rfl) (by kernel_rfl) h with h0 | ⟨a, len, cap, h0, hl, hm, hi⟩
  · obtain rfl : v = .slice none 0 0 := by simpa using h0
    exact ⟨none, [], 0, rfl, ⟨Nat.zero_le _, fun h => absurd h (Nat.lt_irrefl 0)⟩, Nat.le_refl _, Nat.zero_le _⟩
  · obtain rfl : v = .slice (some a) len cap := by simpa using h0
    have h : ∀ i, i < len → ∃ t : Pk, t.ok ∧ PkAt w a i t := by
      intro i hik
      obtain ⟨v0, g0, f0⟩ := hi i hik 0 _ rfl
      obtain ⟨v1, g1, f1⟩ := hi i hik 1 _ rfl
      obtain ⟨v2, g2, f2⟩ := hi i hik 2 _ rfl
      obtain ⟨v3, g3, f3⟩ := hi i hik 3 _ rfl
      obtain ⟨v4, g4, f4⟩ := hi i hik 4 _ rfl
      obtain ⟨v5, g5, f5⟩ := hi i hik 5 _ rfl
      obtain ⟨z0, rfl, k0⟩ := f0
      obtain ⟨z1, rfl, k1⟩ := i64_fit f1
      obtain ⟨z2, rfl, k2⟩ := i64_fit f2
      obtain ⟨z3, rfl, k3⟩ := i64_fit f3
      obtain ⟨z4, rfl, k4⟩ := i64_fit f4
      obtain ⟨z5, rfl, k5⟩ := i64_fit f5
      rw [← Go.Deep.add_add] at g1 g2 g3 g4 g5
      exact ⟨⟨z0, z1, z2, z3, z4, z5⟩, ⟨k1, k2, k3, k4, k5⟩, g0, g1, g2, g3, g4, g5⟩
    obtain ⟨T, hT⟩ := choose_lt h
    have hlen : ((List.range len).map T).length = len := by simp
    refine ⟨some a, (List.range len).map T, cap, by rw [hlen], ⟨by rw [hlen]; omega, fun h0 => ⟨a, rfl, ?_, fun i hi' => ?_⟩⟩, by rw [hlen]; exact hl, hm⟩
    · rw [hlen] at h0
      obtain ⟨_, g, _⟩ := hT 0 h0
      rcases Nat.lt_or_ge a.block w.heap.size with h | h
      · exact h
      · have : w.cell? (a.add (0 * 6)) = none := by simp [World.cell?, Addr.add, Array.getElem?_eq_none h]
        rw [this] at g; cases g
    · rw [hlen] at hi'
      simp only [List.getElem_map, List.getElem_range]
      exact hT i hi'
end
end Wit
end Go.Proofs.YtaakndenkfkijaaDoor
