/- Acts in a row; Great. -/
import Derived.Test.YtonmojinijpneaaRows
import Derived.Test.YtonmojinijpneaaPoR
import Derived.Test.YtonmojinijpneaaPoI
namespace Go.Proofs.Ytonmojinijpneaa
open Go Go.Joins Go.ChangeShapes Go.WideShapes Go.RowKit Go.Deep Go.Lib
set_option linter.unusedVariables false
set_option linter.unusedSimpArgs false
namespace Po
structure Ac where
  kind : Int
  m : Qu.Msg
  r : Rc
instance : Inhabited Ac := ⟨⟨0, Qu.m0, r0⟩⟩
def acC (x : Ac) : List Value := .int .u8 x.kind :: (Qu.msgC x.m ++ rcC x.r)
/-- The acts lie in a row. -/
def Acts (w : World) (A : Option Addr) (n : Nat) (F : Nat → Ac) : Prop := ∀ i, i < n → 0 ≤ (F i).kind ∧ (F i).kind ≤ 255 ∧ ∃ a, A = some a ∧ a.block < w.heap.size ∧ ∀ j v, (acC (F i))[j]? = some v → w.cell? (a.add (i * 18 + j)) = some v
theorem block_add (a : Addr) (n : Nat) : (a.add n).block = a.block := by unfold Addr.add; split <;> rfl
theorem Acts.below {w w' : World} {A : Option Addr} {n : Nat} {F : Nat → Ac} (h : Acts w A n F) (hb : Below w.heap.size w w') : Acts w' A n F := fun i hi => by
  obtain ⟨k0, k1, a, hA, hlt, hc⟩ := h i hi
  exact ⟨k0, k1, a, hA, Nat.lt_of_lt_of_le hlt hb.size, fun j v hv => (hb.cell (p := a.add (i * 18 + j)) (by rw [block_add]; exact hlt)).trans (hc j v hv)⟩
theorem add_lits (a : Addr) (j : Nat) (hj : 0 < j) : a.add j = ⟨a.block, a.off + j, none⟩ := by unfold Addr.add; rw [if_neg (by omega)]
/-- The cells of an act, as the walk writes them. -/
theorem Acts.cells {w : World} {A : Option Addr} {n : Nat} {F : Nat → Ac} (h : Acts w A n F) {i : Nat} (hi : i < n) : ∃ a, A = some a ∧ 0 ≤ (F i).kind ∧ (F i).kind ≤ 255 ∧ w.cell? (a.add (i * 18)) = some (.int .u8 (F i).kind) ∧
    ∀ j v, (Qu.msgC (F i).m ++ rcC (F i).r)[j]? = some v → w.cell? ⟨(a.add (i * 18)).block, (a.add (i * 18)).off + (j + 1), none⟩ = some v := by
  obtain ⟨k0, k1, a, hA, _, hc⟩ := h i hi
  have h0 := hc 0 (.int .u8 (F i).kind) rfl
  rw [Nat.add_zero] at h0
  refine ⟨a, hA, k0, k1, h0, fun j v hv => ?_⟩
  have h1 := hc (j + 1) v hv
  rw [← Go.Deep.add_add, add_lits _ (j + 1) (by omega)] at h1
  exact h1
section
variable {H : Type} {enc : TypeId × Value → H} {w : World} {base : Nat} {spare : Nat → Bool} {held : Bool}
set_option maxRecDepth 100000 in
theorem acts_of {v : Value} {d : DataW H} {p : List MemPlace} {b0 : Nat} (o : Value.okWide Try.prog w .any b0 22 v) (r : DataW.Trod enc Try.prog w base spare held 22 v d p) :
    ∃ (A : Option Addr) (n cap : Nat) (F : Nat → Ac), v = .slice A n cap ∧ n ≤ maxLen ∧ Acts w A n F := by
  obtain ⟨A0, n0, c0, rfl⟩ := okWide_slice Try.underlying22 o
  obtain ⟨fuel, hf⟩ := r
  have hf : DataW.trod enc Try.prog w base spare held fuel 22 [.slice A0 n0 c0] = some (d, p) := by simpa [Value.cells] using hf
  rcases flat_slice (ks := actK) (f := 30) Try.underlying22 (by kernel_rfl) (by kernel_rfl) hf with h0 | ⟨a, len, cap, h0, hl, hm, hi⟩
  · have h0 : Value.slice A0 n0 c0 = .slice none 0 0 := by simpa using h0
    injection h0 with e1 e2 e3
    subst e1 e2 e3
    exact ⟨none, 0, 0, fun _ => default, rfl, Nat.zero_le _, fun i hi => absurd hi (Nat.not_lt_zero i)⟩
  · have h0 : Value.slice A0 n0 c0 = .slice (some a) len cap := by simpa using h0
    injection h0 with e1 e2 e3
    subst e1 e2 e3
    have each : ∀ i, i < n0 → ∃ x : Ac, 0 ≤ x.kind ∧ x.kind ≤ 255 ∧ a.block < w.heap.size ∧ ∀ j v, (acC x)[j]? = some v → w.cell? (a.add (i * 18 + j)) = some v := by
      intro i hil
      obtain ⟨v0, g0, f0⟩ := hi i hil 0 _ rfl
      obtain ⟨v1, g1, f1⟩ := hi i hil 1 _ rfl
      obtain ⟨v2, g2, f2⟩ := hi i hil 2 _ rfl
      obtain ⟨v3, g3, f3⟩ := hi i hil 3 _ rfl
      obtain ⟨v4, g4, f4⟩ := hi i hil 4 _ rfl
      obtain ⟨v5, g5, f5⟩ := hi i hil 5 _ rfl
      obtain ⟨v6, g6, f6⟩ := hi i hil 6 _ rfl
      obtain ⟨v7, g7, f7⟩ := hi i hil 7 _ rfl
      obtain ⟨v8, g8, f8⟩ := hi i hil 8 _ rfl
      obtain ⟨v9, g9, f9⟩ := hi i hil 9 _ rfl
      obtain ⟨v10, g10, f10⟩ := hi i hil 10 _ rfl
      obtain ⟨v11, g11, f11⟩ := hi i hil 11 _ rfl
      obtain ⟨v12, g12, f12⟩ := hi i hil 12 _ rfl
      obtain ⟨v13, g13, f13⟩ := hi i hil 13 _ rfl
      obtain ⟨v14, g14, f14⟩ := hi i hil 14 _ rfl
      obtain ⟨v15, g15, f15⟩ := hi i hil 15 _ rfl
      obtain ⟨v16, g16, f16⟩ := hi i hil 16 _ rfl
      obtain ⟨v17, g17, f17⟩ := hi i hil 17 _ rfl
      obtain ⟨z0, rfl, k0⟩ := f0
      obtain ⟨z1, rfl, _⟩ := f1
      obtain ⟨z2, rfl, _⟩ := f2
      obtain ⟨z3, rfl, _⟩ := f3
      obtain ⟨z4, rfl, _⟩ := f4
      obtain ⟨z5, rfl, _⟩ := f5
      obtain ⟨z6, rfl, _⟩ := f6
      obtain ⟨z7, rfl, _⟩ := f7
      obtain ⟨z8, rfl⟩ := f8
      obtain ⟨z9, rfl, _⟩ := f9
      obtain ⟨z10, rfl, _⟩ := f10
      obtain ⟨z11, rfl, _⟩ := f11
      obtain ⟨z12, rfl, _⟩ := f12
      obtain ⟨z13, rfl, _⟩ := f13
      obtain ⟨z14, rfl, _⟩ := f14
      obtain ⟨z15, rfl⟩ := f15
      obtain ⟨z16, rfl, _⟩ := f16
      obtain ⟨z17, rfl, _⟩ := f17
      have hw : 0 ≤ z0 ∧ z0 ≤ 255 := by
        simp [Lit.wf] at k0
        have h1 : IntKind.u8.min = 0 := rfl
        have h2 : IntKind.u8.max = 255 := rfl
        omega
      refine ⟨⟨z0, ⟨z1, z2, z3, z4, z5, z6, z7, z8⟩, ⟨z9, z10, z11, z12, z13, z14, z15, z16, z17⟩⟩, hw.1, hw.2, ?_, fun j v hv => ?_⟩
      · have := block_lt_of_cell g0
        rwa [block_add] at this
      · match j, hv with
        | 0, hv => cases hv; exact g0
        | 1, hv => cases hv; exact g1
        | 2, hv => cases hv; exact g2
        | 3, hv => cases hv; exact g3
        | 4, hv => cases hv; exact g4
        | 5, hv => cases hv; exact g5
        | 6, hv => cases hv; exact g6
        | 7, hv => cases hv; exact g7
        | 8, hv => cases hv; exact g8
        | 9, hv => cases hv; exact g9
        | 10, hv => cases hv; exact g10
        | 11, hv => cases hv; exact g11
        | 12, hv => cases hv; exact g12
        | 13, hv => cases hv; exact g13
        | 14, hv => cases hv; exact g14
        | 15, hv => cases hv; exact g15
        | 16, hv => cases hv; exact g16
        | 17, hv => cases hv; exact g17
        | _ + 18, hv => cases hv
    obtain ⟨F, hF⟩ := choose_lt each
    exact ⟨some a, n0, c0, F, rfl, by omega, fun i hi => ⟨(hF i hi).1, (hF i hi).2.1, a, rfl, (hF i hi).2.2⟩⟩
end
end Po
end Go.Proofs.Ytonmojinijpneaa
