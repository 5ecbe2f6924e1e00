/- The sort of those who ask, as a row of one's own. -/
import Derived.Test.YtgiibknfkphkgaaDoorRows
import Derived.Test.YtgiibknfkphkgaaDoorSpE
import Derived.Test.YtgiibknfkphkgaaDoorOwn
namespace Go.Proofs.YtgiibknfkphkgaaDoor
open Go Go.RowKit Go.Sort
set_option linter.unusedVariables false
set_option linter.unusedSimpArgs false
namespace Sp
/-- Those who ask, as they lie. -/
def AkR (w : World) (V : Option Addr) (L : List Ak) : Prop := ∀ i (hi : i < L.length), ∃ g, V = some ⟨g, 0, none⟩ ∧ g < w.heap.size ∧ w.cell? ⟨g, i * 4, none⟩ = some (.int .i64 L[i].c) ∧ w.cell? ⟨g, i * 4 + 1, none⟩ = some (.int .i64 L[i].k) ∧ w.cell? ⟨g, i * 4 + 2, none⟩ = some (.int .i64 L[i].n) ∧ w.cell? ⟨g, i * 4 + 3, none⟩ = some (.int .i64 L[i].r)
theorem AkR.below {w w' : World} {V : Option Addr} {L : List Ak} (h : AkR w V L) (hb : Go.RowKit.Below w.heap.size w w') : AkR w' V L := fun i hi => by
  obtain ⟨g, hV, hg, c0, c1, c2, c3⟩ := h i hi
  exact ⟨g, hV, Nat.lt_of_lt_of_le hg hb.size, (hb.cell (p := ⟨g, _, none⟩) hg).trans c0, (hb.cell (p := ⟨g, _, none⟩) hg).trans c1, (hb.cell (p := ⟨g, _, none⟩) hg).trans c2, (hb.cell (p := ⟨g, _, none⟩) hg).trans c3⟩
/-- No later one is ahead of an earlier one. -/
def Srt (L : List Ak) : Prop := ∀ i j (hij : i < j) (hj : j < L.length), ¬ ltA L[j] (L[i]'(by omega))
def sortRow (V : Option Addr) (vc : Nat) (L : List Ak) (w : World) (e : Ending) (w' : World) : Prop := ∃ L' : List Ak, e = .returned (.tuple #[]) ∧ L'.Perm L ∧ Srt L' ∧ AkR w' V L' ∧ w.grownBy w' (Value.slice V L.length vc).ownBlock
theorem holds_of {w : World} {B g vc : Nat} {L : List Ak} (ho : w.ownsRow B 66 4 (.slice (some ⟨g, 0, none⟩) L.length vc) L.length (akCs L)) (hn : 0 < L.length) : HoldsK akC 4 w g 0 L.toArray := by
  obtain ⟨g', hg', _, _, _, hf, _, hc⟩ := own_cell ho hn
  have e : g' = g := by injection hg' with h; injection h with h; exact h.symm
  subst e
  intro j hj
  rw [size_flatK] at hj
  have hj' : j < L.length * 4 := by simpa using hj
  refine ⟨?_, hf _⟩
  rw [Nat.zero_add]
  have h1 := akCs_at L (j / 4) (by omega) (j % 4) (by omega)
  rw [show j / 4 * 4 + j % 4 = j by omega] at h1
  have hlen : j % 4 < (akC (L[j / 4]'(by omega))).length := by show j % 4 < 4; omega
  rw [List.getElem?_eq_getElem hlen] at h1
  rw [hc j _ h1, get_flatK akC 4 L.toArray j hj]
  have e1 : L.toArray[j / 4]! = L[j / 4]'(by omega) := by simp [getElem!_pos L (j / 4) (by omega)]
  rw [e1, getElem!_pos _ (j % 4) hlen]
  rfl
theorem sort_row (V : Option Addr) (vc : Nat) (L : List Ak) (w : World) (B : Nat) (ho : w.ownsRow B 66 4 (.slice V L.length vc) L.length (akCs L)) (hn : L.length ≤ 1000) :
    Calls Tryd.prog 29 #[.slice V L.length vc, .func (.func 30) #[] #[]] w (sortRow V vc L w) := by
  by_cases h0 : L.length = 0
  · have hL := List.eq_nil_of_length_eq_zero h0
    subst hL
    refine (sort_nil V vc _ w).mono ?_
    rintro e w' ⟨rfl, rfl⟩
    exact ⟨[], rfl, List.Perm.refl _, fun i j _ hj => absurd hj (Nat.not_lt_zero j), fun i hi => absurd hi (Nat.not_lt_zero i), ⟨rfl, rfl, rfl, Nat.le_refl _, fun _ _ _ => rfl⟩⟩
  · obtain ⟨g, rfl, _, _, ⟨cs, hb⟩, _, _, _⟩ := own_cell ho (by omega)
    have hH := holds_of ho (by omega)
    have SC := sort_c g vc L.toArray w hH hb.lt (by simpa using hn)
    rw [show L.toArray.size = L.length by simp] at SC
    refine SC.mono ?_
    rintro e w' ⟨d', rfl, hp, hs, hh, hg⟩
    have hdl : d'.toList.length = L.length := hp.length_eq
    refine ⟨d'.toList, rfl, hp, fun i j hij hj => ?_, fun i hi => ⟨g, rfl, Nat.lt_of_lt_of_le hb.lt hg.size, ?_⟩, hg⟩
    · have := hs i j hij (by simpa using hj)
      rwa [getElem!_pos d' j (by simpa using hj), getElem!_pos d' i (by have : j < d'.size := by simpa using hj
                                                                        omega)] at this
    · have hc := HoldsK.cells hh (fun _ => rfl) (i := i) (by simpa using hi)
      rw [getElem!_pos d' i (by simpa using hi), Nat.zero_add] at hc
      have a0 := hc 0 (.int .i64 d'[i].c) rfl
      have a1 := hc 1 (.int .i64 d'[i].k) rfl
      have a2 := hc 2 (.int .i64 d'[i].n) rfl
      have a3 := hc 3 (.int .i64 d'[i].r) rfl
      have add : ∀ j, (⟨g, i * 4, none⟩ : Addr).add j = ⟨g, i * 4 + j, none⟩ := fun j => by
        unfold Addr.add
        split
        · rename_i e
          rw [e]
          rfl
        · rfl
      rw [add] at a0 a1 a2 a3
      exact ⟨a0, a1, a2, a3⟩
end Sp
end Go.Proofs.YtgiibknfkphkgaaDoor
