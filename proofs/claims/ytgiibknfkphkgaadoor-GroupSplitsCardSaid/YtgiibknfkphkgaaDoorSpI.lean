/- The groups of a split: what each round makes of them. No program's text. -/
import Derived.Test.YtgiibknfkphkgaaDoorRows
import Derived.Test.YtgiibknfkphkgaaDoorSpH
namespace Go.Proofs.YtgiibknfkphkgaaDoor
open Go Go.RowKit
set_option linter.unusedVariables false
set_option linter.unusedSimpArgs false
namespace Sp
/-- The last group is of the color that came last. -/
def LastC (gs : List Gw) (L : List Ak) (i : Nat) : Prop := 0 < i → ∃ m, gs.length = m + 1 ∧ (gs.getD m default).c = (L.getD (i - 1) default).c
theorem ask_mem {q : List (Int × Int)} {l : List Int} : ∀ i, i ≤ q.length → ∀ x ∈ askL q l i, 0 ≤ x.c ∧ ∃ y ∈ q, x.c = y.1
  | 0, _, x, hx => by cases hx
  | i + 1, hi, x, hx => by
    rw [askL] at hx
    rcases List.mem_append.1 hx with hx | hx
    · exact ask_mem i (by omega) x hx
    · split at hx
      · rename_i h
        rw [List.mem_singleton.1 hx]
        refine ⟨h, q[i], List.getElem_mem _, ?_⟩
        rw [List.getD_eq_getElem?_getD, List.getElem?_eq_getElem (by omega)]
        rfl
      · cases hx
theorem grpS_len (gs : List (Int × List Int)) (x : Ak) (i : Nat) (h : gs.length ≤ i ∧ ∀ p ∈ gs, p.2.length ≤ i) : (grpS gs x).length ≤ i + 1 ∧ ∀ p ∈ grpS gs x, p.2.length ≤ i + 1 := by
  unfold grpS
  split
  · rename_i c rs hl
    have hm := List.mem_of_getLast? hl
    split
    · refine ⟨?_, fun p hp => ?_⟩
      · rw [List.length_append, List.length_dropLast]
        have := h.1
        simp
        omega
      · rcases List.mem_append.1 hp with hp | hp
        · have := h.2 p (List.dropLast_subset _ hp); omega
        · rw [List.mem_singleton.1 hp]
          have := h.2 _ hm
          simp at this ⊢
          omega
    · refine ⟨by rw [List.length_append]; have := h.1; simp; omega, fun p hp => ?_⟩
      rcases List.mem_append.1 hp with hp | hp
      · have := h.2 p hp; omega
      · rw [List.mem_singleton.1 hp]; simp
  · exact ⟨by simp, fun p hp => by rw [List.mem_singleton.1 hp]; simp⟩
theorem grpN_len {L : List Ak} : ∀ i, i ≤ L.length → (grpN L i).length ≤ i ∧ ∀ p ∈ grpN L i, p.2.length ≤ i
  | 0, _ => ⟨by simp [grpN], fun p hp => by simp [grpN] at hp⟩
  | i + 1, hi => by
    rw [grpN_succ (by omega : i < L.length)]
    exact grpS_len _ _ i (grpN_len i (by omega))
theorem gs_len {gs : List Gw} {L : List Ak} {i : Nat} (h : gs.map Gw.p = grpN L i) (hi : i ≤ L.length) : gs.length ≤ i ∧ ∀ j (hj : j < gs.length), gs[j].rs.length ≤ i := by
  have hg := grpN_len (L := L) i hi
  rw [← h] at hg
  refine ⟨by simpa using hg.1, fun j hj => ?_⟩
  exact hg.2 (gs[j].p) (List.mem_map.2 ⟨gs[j], List.getElem_mem _, rfl⟩)
theorem last_split {gs : List Gw} {m : Nat} (h : gs.length = m + 1) : ∃ pre x, gs = pre ++ [x] ∧ pre.length = m := by
  refine ⟨gs.take m, gs[m]'(by omega), ?_, by rw [List.length_take]; omega⟩
  have := List.take_append_drop m gs
  rw [List.drop_eq_getElem_cons (by omega), List.drop_of_length_le (by omega)] at this
  exact this.symm
theorem end_same {gs : List Gw} {L : List Ak} {i m : Nat} {x : Ak} (h : gs.map Gw.p = grpN L i) (hi : i < L.length) (hx : L[i] = x) (hgl : gs.length = m + 1) (hc : (gs.getD m default).c = x.c) (a9 : Option Addr) (c9 : Nat) (gc : Int) (gA : Option Addr) (gcap : Nat) (grs : List Int) (hm : m < gs.length) (hg : gs[m] = ⟨gc, gA, gcap, grs⟩) :
    (gs.set m ⟨gc, a9, c9, grs ++ [x.r]⟩).map Gw.p = grpN L (i + 1) ∧ LastC (gs.set m ⟨gc, a9, c9, grs ++ [x.r]⟩) L (i + 1) := by
  have hcc : gc = x.c := by
    rw [List.getD_eq_getElem?_getD, List.getElem?_eq_getElem hm, hg] at hc
    exact hc
  refine ⟨?_, fun _ => ⟨m, by rw [List.length_set]; exact hgl, ?_⟩⟩
  · obtain ⟨pre, y, rfl, hp⟩ := last_split hgl
    have hy : y = ⟨gc, gA, gcap, grs⟩ := by
      rw [← hg]
      simp [← hp]
    rw [grpN_succ hi, hx, ← h, hy]
    unfold grpS
    simp [Gw.p, hcc, ← hp]
  · rw [List.getD_eq_getElem?_getD, List.getElem?_set, if_pos rfl, if_pos hm, Nat.add_sub_cancel, List.getD_eq_getElem?_getD, List.getElem?_eq_getElem hi, hx]
    exact hcc
theorem end_new {gs : List Gw} {L : List Ak} {i : Nat} {x : Ak} (h : gs.map Gw.p = grpN L i) (hi : i < L.length) (hx : L[i] = x) (hn : i = 0 ∨ ∃ m, gs.length = m + 1 ∧ (gs.getD m default).c ≠ x.c) (a9 : Option Addr) (c9 : Nat) (gc : Int) (gA : Option Addr) (gcap : Nat) (grs : List Int) (hm : gs.length < (gs ++ [(⟨x.c, none, 0, []⟩ : Gw)]).length) (hg : (gs ++ [(⟨x.c, none, 0, []⟩ : Gw)])[gs.length] = ⟨gc, gA, gcap, grs⟩) :
    ((gs ++ [(⟨x.c, none, 0, []⟩ : Gw)]).set gs.length ⟨gc, a9, c9, grs ++ [x.r]⟩).map Gw.p = grpN L (i + 1) ∧ LastC ((gs ++ [(⟨x.c, none, 0, []⟩ : Gw)]).set gs.length ⟨gc, a9, c9, grs ++ [x.r]⟩) L (i + 1) := by
  simp at hg
  obtain ⟨rfl, _, _, rfl⟩ := hg
  refine ⟨?_, fun _ => ⟨gs.length, by simp, ?_⟩⟩
  · rw [grpN_succ hi, hx, ← h]
    have e : (gs ++ [(⟨x.c, none, 0, []⟩ : Gw)]).set gs.length ⟨x.c, a9, c9, [] ++ [x.r]⟩ = gs ++ [⟨x.c, a9, c9, [x.r]⟩] := by simp
    rw [e, List.map_append]
    unfold grpS
    rcases hn with rfl | ⟨m, hgl, hc⟩
    · have h0 : gs.map Gw.p = [] := h.trans (by simp [grpN])
      rw [h0]
      rfl
    · obtain ⟨pre, y, rfl, hp⟩ := last_split hgl
      have hyc : y.c ≠ x.c := by
        have : (pre ++ [y]).getD m default = y := by simp [List.getD_eq_getElem?_getD, ← hp]
        rw [this] at hc
        exact hc
      simp [Gw.p, hyc]
  · rw [List.getD_eq_getElem?_getD, List.getElem?_set, if_pos rfl, if_pos hm, Nat.add_sub_cancel, List.getD_eq_getElem?_getD, List.getElem?_eq_getElem hi, hx]
    rfl
end Sp
end Go.Proofs.YtgiibknfkphkgaaDoor
