/- An append onto a new row without capacity: a new row, all that was stays. -/
import Derived.Test.YtnmaclpjddafnaaRows
import Derived.Test.YtnmaclpjddafnaaSignPp
import Derived.Deep.AppendSrc
namespace Go.Proofs.Ytnmaclpjddafnaa
open Go.RowKit
set_option linter.unusedVariables false
set_option linter.unusedSimpArgs false
theorem run_append_empty {P : Program} (w : World) (base : Nat) (t ty e : TypeId) (i : TypeInfo) (z : Value) (size bytes : Nat) (ht : P.underlying t = some (.slice e)) (hi : P.info? e = some i) (hz : i.zero = some z)
    (hsize : i.size = size) (hby : i.bytes = bytes) (hzs : z.cells.size = size) (g : Nat) (hg : Blk w g e #[]) (hbg : base ≤ g) (hbase : base ≤ w.heap.size)
    (B : Nat) (A : Option Addr) (m c : Nat) (news : List Value) (hr : Reads w B size A m news) (h1 : ∀ u ∈ news, u.oneCell' = true) (h63 : m ≤ 1000000) (hb2 : bytes ≤ 1000) :
    ∃ v' w', (Builtin.append_ #[t, t] ty #[.slice (some ⟨g, 0, none⟩) 0 0, .slice A m c]).run P w = .ok v' w' ∧ w'.ownsRow base e size v' m news ∧ Below w.heap.size w w' := by
  have own0 : w.ownsRow base e size (.slice (some ⟨g, 0, none⟩) 0 0) 0 [] := ⟨by simp, .inr ⟨g, 0, #[], rfl, hbg, hg, Nat.le_refl _, by unfold maxLen; omega, by simp, by simp⟩⟩
  rcases Nat.eq_zero_or_pos m with h0 | h0
  · subst h0
    have hn : news = [] := List.eq_nil_of_length_eq_zero (by simpa using hr.1)
    subst hn
    cases A with
    | none =>
      exact ⟨_, w, run_append_of_nil w base t ty e i size ht hi _ 0 [] own0 c, own0, Below.refl _ _⟩
    | some ad =>
      have hs : Src P i.size t (.slice (some ad) 0 c) 0 [] w := Src.ofSlice w ht ad 0 c [] (by simp) (fun j u hj => by simp at hj) (fun u hu => by cases hu)
      have := run_append_room_src w t t ty e i ht hi g 0 0 0 (.slice (some ad) 0 c) 0 [] hs (Nat.le_refl _) (fun j hj => by simp at hj) (fun j hj => by simp at hj)
      exact ⟨_, _, this, own0, Below.refl _ _⟩
  · obtain ⟨ad, rfl, hb, hc⟩ := hr.2 h0
    have hs : Src P i.size t (.slice (some ad) m c) m news w := Src.ofSlice w ht ad m c news (by rw [hr.1, hsize]) hc h1
    have hold : (Builtin.firstCells i.size 0 (.slice (some ⟨g, 0, none⟩) 0 0)).run P w.drew = .ok ([] : List Value).toArray w.drew :=
      run_firstCells_some w.drew i.size 0 ⟨g, 0, none⟩ 0 0 [] (by simp) (fun j u hj => by simp at hj)
    have hrun := run_append_grow_src w t t ty e i z ht hi hz (some ⟨g, 0, none⟩) 0 0 [] hold (.slice (some ad) m c) m news hs (by omega) (by omega) (by
      rw [hby]
      exact growslice_fits (by omega) (Nat.le_trans (Nat.mul_le_mul (show 0 + m ≤ 1000000 by omega) hb2) (by omega)))
    rw [Nat.zero_add] at hrun
    refine ⟨_, _, hrun, ⟨hr.1, .inr ⟨w.heap.size, _, _, rfl, hbase, heap_alloc_new w.drew _, ?_, ?_, ?_, ?_⟩⟩, (Below.refl _ _).drew.alloc (Nat.le_refl _) _⟩
    · have := grownCap_ge w m 0 e
      omega
    · exact grownCap_le_maxLen w m 0 e (by unfold maxLen; omega)
    · have h3 := grownCap_ge w m 0 e
      have h4 := hr.1
      simp only [Array.size_append, size_zeroCells, hzs, List.nil_append, List.size_toArray, h4]
      rw [← Nat.add_mul]
      congr 1
      omega
    · have h4 := hr.1
      simp only [Array.toList_append, List.nil_append]
      rw [← h4, List.take_left]
end Go.Proofs.Ytnmaclpjddafnaa
