/- The contracts of Tick, of the program and of the chapter. -/
import Derived.Test.YtflaikhkddjfjaaCloB
namespace Go.Proofs.Ytflaikhkddjfjaa
open Go.RowKit
set_option linter.unusedVariables false
set_option linter.unusedSimpArgs false

def tickOk (l : List Int) (r : Int) : Bool := mayB l && decide (0 ≤ r ∧ r < l.length ∧ l.getD r.toNat 0 < 1099511627776)
def tickL (l : List Int) (r : Int) : List Int := if tickOk l r then l.set r.toNat (l.getD r.toNat 0 + 1) else []
def tickE (l : List Int) (r : Int) : Int := if tickOk l r then 0 else 2
theorem tick_yes {l : List Int} {r : Int} (h : tickOk l r = true) : tickL l r = l.set r.toNat (l.getD r.toNat 0 + 1) ∧ tickE l r = 0 := by simp [tickL, tickE, h]
theorem tick_no {l : List Int} {r : Int} (h : tickOk l r = false) : tickL l r = [] ∧ tickE l r = 2 := by simp [tickL, tickE, h]
theorem tickOk_may {l : List Int} {r : Int} (h : mayB l = false) : tickOk l r = false := by simp [tickOk, h]
theorem tickOk_no {l : List Int} {r : Int} (h : ¬ (0 ≤ r ∧ r < l.length ∧ l.getD r.toNat 0 < 1099511627776)) : tickOk l r = false := by
  unfold tickOk
  rw [decide_eq_false h, Bool.and_false]
theorem tickOk_yes {l : List Int} {r : Int} (hm : mayB l = true) (h : 0 ≤ r ∧ r < l.length ∧ l.getD r.toNat 0 < 1099511627776) : tickOk l r = true := by
  unfold tickOk
  rw [decide_eq_true h, hm]; rfl
/-- A row of the call's own that was made empty. -/
theorem own_empty (w : World) : (w.alloc (.cells #[] 3)).ownsRow w.heap.size 3 1 (.slice (some ⟨w.heap.size, 0, none⟩) 0 0) 0 [] :=
  ⟨rfl, .inr ⟨w.heap.size, 0, #[], rfl, Nat.le_refl _, heap_alloc_new w _, Nat.le_refl _, Nat.zero_le _, rfl, rfl⟩⟩

theorem ints_one (l : List Int) : ∀ u ∈ ints l, u.oneCell' = true := by
  intro u hu
  simp only [ints, List.mem_map] at hu
  obtain ⟨n, _, rfl⟩ := hu
  rfl

/-- A row of the call's own, block g, whose first cells are l. -/
def OwnRow (w : World) (B g cap : Nat) (l : List Int) : Prop := ∃ cur : Array Value, B ≤ g ∧ Blk w g 3 cur ∧ cur.size = cap ∧ l.length ≤ cap ∧ cap ≤ maxLen ∧ cur.toList.take l.length = ints l
section
variable {w w' : World} {B g cap : Nat} {l : List Int}
theorem OwnRow.lt (h : OwnRow w B g cap l) : g < w.heap.size := by obtain ⟨_, _, hb, _⟩ := h; exact hb.lt
theorem OwnRow.ge (h : OwnRow w B g cap l) : B ≤ g := by obtain ⟨_, hb, _⟩ := h; exact hb
theorem OwnRow.room (h : OwnRow w B g cap l) : l.length ≤ cap := by obtain ⟨_, _, _, _, h, _⟩ := h; exact h
theorem OwnRow.cell (h : OwnRow w B g cap l) (k : Nat) (hk : k < l.length) : w.cell? ⟨g, k, none⟩ = some (.int .i64 (l.getD k 0)) := by
  obtain ⟨cur, _, hb, hs, hl, _, he⟩ := h
  have h1 : (ints l)[k]? = some (.int .i64 (l.getD k 0)) := ints_at l k hk
  rw [← he, List.getElem?_take, if_pos hk, Array.getElem?_toList] at h1
  rw [hb.cell k, h1]
theorem OwnRow.frozen (h : OwnRow w B g cap l) (k : Nat) : w.frozen? ⟨g, k, none⟩ = false := by obtain ⟨_, _, hb, _⟩ := h; exact hb.frozen k
theorem OwnRow.set_ (h : OwnRow w B g cap l) (k : Nat) (x : Int) : OwnRow (w.setCell ⟨g, k, none⟩ (.int .i64 x)) B g cap (l.set k x) := by
  obtain ⟨cur, h0, hb, hs, hl, hm, he⟩ := h
  refine ⟨cur.setIfInBounds k (.int .i64 x), h0, hb.set_ k _, by simpa using hs, by simpa using hl, hm, ?_⟩
  rw [Array.toList_setIfInBounds, List.length_set, List.take_set, he]
  simp [ints, List.map_set]
theorem OwnRow.of_block (h : OwnRow w B g cap l) (e : w'.heap[g]? = w.heap[g]?) : OwnRow w' B g cap l := by
  obtain ⟨cur, h0, hb, h2⟩ := h
  exact ⟨cur, h0, e.trans hb, h2⟩
theorem OwnRow.below {D : Nat} (h : OwnRow w B g cap l) (hb : Below D w w') (hg : g < D) : OwnRow w' B g cap l := h.of_block (hb.block g hg)
theorem OwnRow.drewN (h : OwnRow w B g cap l) (n : Nat) : OwnRow (w.drewN n) B g cap l := h
theorem OwnRow.owned (h : OwnRow w B g cap l) : Owned w B (some ⟨g, 0, none⟩) cap l := by
  obtain ⟨cur, h0, hb, hs, hl, hm, he⟩ := h
  exact ⟨by simp [ints], .inr ⟨g, cap, cur, rfl, h0, hb, hl, hm, by simpa using hs, by simpa using he⟩⟩
theorem OwnRow.reads (h : OwnRow w B g cap l) : Rd w w.heap.size (some ⟨g, 0, none⟩) l := h.owned.reads
theorem OwnRow.of_own {n : Nat} {xs : List Value} (h : w.ownsRow B 3 1 (.slice (some ⟨g, 0, none⟩) n cap) n xs) (hn : n = l.length) (hx : xs = ints l) : OwnRow w B g cap l := by
  subst hn hx
  obtain ⟨_, h | ⟨g', cap', cur, hv, h0, hb, hl, hm, hs, he⟩⟩ := h
  · exact absurd h.1 (by simp)
  · injection hv with h1 h2 h3
    injection h1 with h1
    injection h1 with h1
    subst h1 h3
    exact ⟨cur, h0, hb, by simpa using hs, hl, hm, by simpa using he⟩
end
/-- What is owned, and isn't empty, is a row. -/
theorem Owned.row {w : World} {B cap : Nat} {A : Option Addr} {l : List Int} (h : Owned w B A cap l) : (A = none ∧ cap = 0 ∧ l = []) ∨ ∃ g, A = some ⟨g, 0, none⟩ ∧ OwnRow w B g cap l := by
  obtain ⟨h0, ⟨hv, hn⟩ | ⟨g', cap', cur, hv, h1, hb, hl, hm, hs, he⟩⟩ := h
  · injection hv with h1 h2 h3
    exact .inl ⟨h1, h3, List.eq_nil_of_length_eq_zero hn⟩
  · injection hv with e1 e2 e3
    subst e1 e3
    exact .inr ⟨g', rfl, cur, h1, hb, by simpa using hs, hl, hm, by simpa using he⟩

end Go.Proofs.Ytflaikhkddjfjaa
