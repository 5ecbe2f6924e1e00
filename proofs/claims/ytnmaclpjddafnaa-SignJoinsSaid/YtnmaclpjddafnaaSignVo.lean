/- Rows that are owned: block, cells, capacity. No program's text. -/
import Derived.Test.YtnmaclpjddafnaaRows
import Derived.Test.YtnmaclpjddafnaaBase
namespace Go.Proofs.Ytnmaclpjddafnaa
open Go Go.RowKit
set_option linter.unusedVariables false
set_option linter.unusedSimpArgs false
namespace Jn
theorem own_block {w : World} {B size n : Nat} {e : TypeId} {v : Value} {xs : List Value} (h : w.ownsRow B e size v n xs) {g : Nat} (hg : v.ownBlock = some g) : B ≤ g ∧ g < w.heap.size ∧ ∃ cs, Blk w g e cs := by
  rcases h.2 with ⟨rfl, _⟩ | ⟨g', cap, cur, rfl, hge, hh, _⟩
  · simp [Value.ownBlock] at hg
  · obtain rfl : g' = g := by simpa [Value.ownBlock] using hg
    exact ⟨hge, (Array.getElem?_eq_some_iff.1 hh).1, cur, hh⟩
/-- A row's cells, where it has an element. -/
theorem own_cell {w : World} {B size n : Nat} {e : TypeId} {A : Option Addr} {c m : Nat} {xs : List Value} (h : w.ownsRow B e size (.slice A m c) n xs) (hn : 0 < n) : ∃ g, A = some ⟨g, 0, none⟩ ∧ B ≤ g ∧ m = n ∧ (∃ cs, Blk w g e cs) ∧ (∀ k, w.frozen? ⟨g, k, none⟩ = false) ∧ n ≤ c ∧ ∀ k u, xs[k]? = some u → w.cell? ⟨g, k, none⟩ = some u := by
  rcases h.2 with ⟨_, h0⟩ | ⟨g, cap, cur, hv, hge, hh, hnc, _, hcs, htk⟩
  · omega
  · injection hv with h1 h2 h3
    subst h1
    subst h2
    subst h3
    have hB : Blk w g e cur := hh
    refine ⟨g, rfl, hge, rfl, ⟨cur, hB⟩, hB.frozen, hnc, fun k u hu => ?_⟩
    rw [← htk, List.getElem?_take] at hu
    split at hu
    · rw [hB.cell]
      simpa using hu
    · cases hu
theorem own_form {w : World} {B size n : Nat} {e : TypeId} {v : Value} {xs : List Value} (h : w.ownsRow B e size v n xs) : ∃ a c, v = .slice a n c ∧ (0 < n → n ≤ c ∧ c ≤ maxLen) := by
  rcases h.2 with ⟨rfl, h0⟩ | ⟨g, cap, cur, rfl, hge, hh, hnc, hm, _⟩
  · exact ⟨none, 0, by rw [h0], fun h1 => by omega⟩
  · exact ⟨_, cap, rfl, fun _ => ⟨hnc, hm⟩⟩
end Jn
end Go.Proofs.Ytnmaclpjddafnaa
