/- What strings.Split tells at a separator of one byte, in the words of XWitP. No program's text. -/
import Derived.Test.YtaakndenkfkijaaDoorWitP
import Derived.Lib.SplitLaws
namespace Go.Proofs.YtaakndenkfkijaaDoor
open Go.Lib (splitK splitB splitB_data count count_miss count_hit count_cons_eq count_cons_ne countB index index_ge)
set_option linter.unusedVariables false
set_option linter.unusedSimpArgs false
namespace Wit
theorem spl_cur (c : UInt8) : ∀ (s cur h : List UInt8) (t : List (List UInt8)), spl c [] s = h :: t → spl c cur s = (cur ++ h) :: t
  | [], cur, h, t, e => by
    cases e
    simp [spl]
  | x :: s, cur, h, t, e => by
    rw [spl] at e ⊢
    split at e
    · rename_i hx
      cases e
      rw [if_pos hx]
      simp
    · rename_i hx
      rw [if_neg hx]
      obtain ⟨h', t', e'⟩ := spl_pos c s []
      rw [spl_cur c s _ _ _ e'] at e
      rw [spl_cur c s _ _ _ e']
      cases e
      simp
theorem splitK_ne (c x : UInt8) (r h : List UInt8) (t : List (List UInt8)) (hx : x ≠ c) (e : splitK [c] 0 (count r [c]) r = h :: t) : splitK [c] 0 (count r [c]) (x :: r) = (x :: h) :: t := by
  have hp : ([c] : List UInt8).isPrefixOf (x :: r) = false := by simp [List.isPrefixOf, Ne.symm hx]
  have hix : index (x :: r) [c] = if index r [c] == -1 then -1 else index r [c] + 1 := by rw [index, hp]; simp
  by_cases hm : index r [c] = -1
  · rw [count_miss hm] at e ⊢
    cases e
    rfl
  · have hge := index_ge r [c]
    obtain ⟨i, hi⟩ : ∃ i : Nat, index r [c] = i := ⟨(index r [c]).toNat, by omega⟩
    have hi2 : index (x :: r) [c] = ((i + 1 : Nat) : Int) := by rw [hix, if_neg (fun e => hm (beq_iff_eq.1 e)), hi]; omega
    have hc := count_hit (by simp) hi
    obtain ⟨k, hk⟩ : ∃ k, count r [c] = k + 1 := ⟨_, by rw [hc, Nat.add_comm]⟩
    have m1 : ¬ ((i : Int) == -1) = true := fun e => by have := beq_iff_eq.1 e; omega
    have m2 : ¬ (((i + 1 : Nat) : Int) == -1) = true := fun e => by have := beq_iff_eq.1 e; omega
    rw [hk] at e ⊢
    rw [splitK, hi, if_neg m1] at e
    rw [splitK, hi2, if_neg m2]
    cases e
    simp [Nat.add_right_comm]
theorem splitK_spl (c : UInt8) : ∀ s : List UInt8, splitK [c] 0 (count s [c]) s = spl c [] s
  | [] => by
    rw [count_miss (by simp [index])]
    rfl
  | x :: r => by
    rw [spl]
    by_cases hx : x = c
    · subst hx
      have hix : index (x :: r) [x] = 0 := by rw [index]; simp [List.isPrefixOf]
      rw [if_pos rfl, count_cons_eq, Nat.add_comm, splitK, hix, if_neg (by decide), ← splitK_spl x r]
      simp
    · obtain ⟨h, t, e⟩ := spl_pos c r []
      rw [if_neg hx, count_cons_ne x c r hx, List.nil_append, spl_cur c r [x] h t e]
      exact splitK_ne c x r h t hx (by rw [splitK_spl c r, e])
/-- strings.Split's parts, at a separator of one byte. -/
theorem splitB_spl (c : UInt8) (s : ByteArray) : (splitB ⟨#[c]⟩ 0 (countB s ⟨#[c]⟩) s).map (·.data.toList) = spl c [] s.data.toList := by
  rw [splitB_data]
  exact splitK_spl c s.data.toList
theorem count_spl (c : UInt8) (s : ByteArray) : countB s ⟨#[c]⟩ + 1 = (spl c [] s.data.toList).length := by
  rw [← splitB_spl, List.length_map, Go.Lib.splitB_all _ (by show 1 ≤ 1; omega) 0 _ s rfl]
/-- The cells that strings.Split lays. -/
theorem split_cells (c : UInt8) (s : ByteArray) : (splitB ⟨#[c]⟩ 0 (countB s ⟨#[c]⟩) s).map Go.Value.string = (spl c [] s.data.toList).map fun l => Go.Value.string ⟨l.toArray⟩ := by
  rw [← splitB_spl, List.map_map]
  congr 1
end Wit
end Go.Proofs.YtaakndenkfkijaaDoor
