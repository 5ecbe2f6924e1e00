/- Heights: what stands behind each round. No program's text. -/
import Derived.Test.YtoiibphbogpojaaDoorRows
import Derived.Test.YtoiibphbogpojaaDoorCodA
namespace Go.Proofs.YtoiibphbogpojaaDoor
open Go Go.RowKit
set_option linter.unusedVariables false
set_option linter.unusedSimpArgs false
namespace Cod
def meas (h : List Int) (t : List Nat) : Nat := t.length + 2 * h.count (-1)
structure GInv (n : Nat) (h : List Int) (t : List Nat) : Prop where
  len : h.length = n
  bnd : ∀ k, k < n → h.getD k 0 = -1 ∨ (0 ≤ h.getD k 0 ∧ h.getD k 0 ≤ 200)
  tod : ∀ a ∈ t, a < n ∧ 0 ≤ h.getD a 0
theorem getD_set_same {h : List Int} {k : Nat} {b : Int} (hk : k < h.length) : (h.set k b).getD k 0 = b := by
  rw [List.getD_eq_getElem?_getD, List.getElem?_set_self hk]; rfl
theorem getD_set_other {h : List Int} {k j : Nat} {b : Int} (hj : k ≠ j) : (h.set k b).getD j 0 = h.getD j 0 := by
  rw [List.getD_eq_getElem?_getD, List.getElem?_set_ne hj, ← List.getD_eq_getElem?_getD]
theorem GInv.push {n : Nat} {h : List Int} {t : List Nat} {k : Nat} {b : Int} (I : GInv n h t) (hk : k < n) (hb : 0 ≤ b ∧ b ≤ 200) (hm : h.getD k 0 = -1) : GInv n (h.set k b) (t ++ [k]) := by
  refine ⟨by rw [List.length_set]; exact I.len, fun j hj => ?_, fun a ha => ?_⟩
  · by_cases e : k = j
    · subst e
      rw [getD_set_same (by rw [I.len]; exact hk)]
      exact .inr hb
    · rw [getD_set_other e]
      exact I.bnd j hj
  · rcases List.mem_append.1 ha with ha | ha
    · obtain ⟨h1, h2⟩ := I.tod a ha
      refine ⟨h1, ?_⟩
      by_cases e : k = a
      · subst e; omega
      · rw [getD_set_other e]; exact h2
    · rw [List.mem_singleton.1 ha, getD_set_same (by rw [I.len]; exact hk)]
      exact ⟨hk, hb.1⟩
theorem count_set_neg {h : List Int} {k : Nat} {b : Int} (hk : k < h.length) (hm : h.getD k 0 = -1) (hb : b ≠ -1) : (h.set k b).count (-1) + 1 = h.count (-1) := by
  induction h generalizing k with
  | nil => exact absurd hk (Nat.not_lt_zero k)
  | cons x l ih =>
    cases k with
    | zero =>
      have hx : x = -1 := hm
      subst hx
      rw [List.set_cons_zero, List.count_cons_self, List.count_cons_of_ne hb]
    | succ k =>
      have := ih (k := k) (by simpa using hk) (by simpa using hm)
      rw [List.set_cons_succ, List.count_cons, List.count_cons]
      omega
theorem meas_push {h : List Int} {t : List Nat} {k : Nat} {b : Int} (hk : k < h.length) (hm : h.getD k 0 = -1) (hb : b ≠ -1) : meas (h.set k b) (t ++ [k]) + 1 = meas h t := by
  have := count_set_neg hk hm hb
  unfold meas
  rw [List.length_append, List.length_singleton]
  omega
/-- Instructions that may be, as heights want them. -/
structure CsOk (cs : List In) : Prop where
  pos : 0 < cs.length
  most : cs.length ≤ 4000
  each : ∀ i, i < cs.length → 1 ≤ (cs.getD i default).op ∧ (cs.getD i default).op ≤ 29 ∧ ((cs.getD i default).op = 28 → 0 ≤ (cs.getD i default).n) ∧ ((cs.getD i default).op = 22 ∨ (cs.getD i default).op = 23 ∨ (cs.getD i default).op = 24 → 0 ≤ (cs.getD i default).n ∧ (cs.getD i default).n < cs.length)
  last : (cs.getD (cs.length - 1) default).op = 29
theorem ways_lt {cs : List In} (h : CsOk cs) {a : Nat} (ha : a < cs.length) : ∀ k ∈ waysI (cs.getD a default) a, k < cs.length := by
  obtain ⟨_, _, _, h4⟩ := h.each a ha
  have hl := h.last
  intro k hk
  unfold waysI at hk
  split at hk
  · cases hk
  · rename_i h29
    have h1 : a + 1 < cs.length := by
      rcases Nat.lt_or_ge (a + 1) cs.length with h | h
      · exact h
      · exfalso
        have : a = cs.length - 1 := by omega
        rw [this] at h29
        exact h29 hl
    split at hk
    · rename_i h22
      have := h4 (.inl h22)
      rw [List.mem_singleton.1 hk]
      omega
    · split at hk
      · rename_i h23
        have := h4 (.inr h23)
        rcases List.mem_cons.1 hk with rfl | hk
        · omega
        · rw [List.mem_singleton.1 hk]; exact h1
      · rw [List.mem_singleton.1 hk]; exact h1
theorem tk_pos {x : In} (h : x.op = 28 → 0 ≤ x.n) : 0 ≤ tkI x := by
  unfold tkI
  split
  · rename_i h1
    have := h h1
    omega
  · exact (opO_small x.op).1
theorem beh_bnd {x : In} {h : Int} (hk : okS x h = true) (h28 : x.op = 28 → 0 ≤ x.n) : 0 ≤ behI x h ∧ behI x h ≤ 200 := by
  unfold okS at hk
  simp only [Bool.and_eq_true, decide_eq_true_eq] at hk
  have := (opO_small x.op).2.2.1
  refine ⟨?_, hk.2⟩
  unfold behI
  omega
theorem GInv.start {n : Nat} (hn : 0 < n) : GInv n (h0 n) [0] := by
  unfold h0
  refine ⟨by simp, fun k hk => ?_, fun a ha => ?_⟩
  · by_cases e : 0 = k
    · subst e
      rw [getD_set_same (by simpa using hn)]
      exact .inr ⟨by omega, by omega⟩
    · rw [getD_set_other e, List.getD_eq_getElem?_getD, List.getElem?_replicate, if_pos hk]
      exact .inl rfl
  · rw [List.mem_singleton.1 ha, getD_set_same (by simpa using hn)]
    exact ⟨hn, Int.le_refl _⟩
theorem meas_start (n : Nat) : meas (h0 n) [0] ≤ 2 * n + 1 := by
  unfold meas
  have := List.count_le_length (a := (-1 : Int)) (l := h0 n)
  have e : (h0 n).length = n := by unfold h0; simp
  rw [e] at this
  simp
  omega
theorem GInv.pop {n : Nat} {h : List Int} {t : List Nat} {a : Nat} (I : GInv n h (t ++ [a])) : GInv n h t ∧ a < n ∧ 0 ≤ h.getD a 0 ∧ h.getD a 0 ≤ 200 := by
  obtain ⟨h1, h2⟩ := I.tod a (List.mem_append_right _ (List.mem_singleton.2 rfl))
  refine ⟨⟨I.len, I.bnd, fun b hb => I.tod b (List.mem_append_left _ hb)⟩, h1, h2, ?_⟩
  rcases I.bnd a h1 with h3 | h3
  · omega
  · exact h3.2
theorem wayF_push {b : Int} {k : Nat} {l : List Nat} {h : List Int} {t : List Nat} (hm : h.getD k 0 = -1) : wayF b (k :: l) h t = wayF b l (h.set k b) (t ++ [k]) := by rw [wayF, if_pos hm]
theorem wayF_same {b : Int} {k : Nat} {l : List Nat} {h : List Int} {t : List Nat} (hm : h.getD k 0 ≠ -1) (hb : h.getD k 0 = b) : wayF b (k :: l) h t = wayF b l h t := by rw [wayF, if_neg hm, if_pos hb]
theorem wayF_clash {b : Int} {k : Nat} {l : List Nat} {h : List Int} {t : List Nat} (hm : h.getD k 0 ≠ -1) (hb : h.getD k 0 ≠ b) : wayF b (k :: l) h t = none := by rw [wayF, if_neg hm, if_neg hb]
end Cod
end Go.Proofs.YtoiibphbogpojaaDoor
