/- Two stacks of like levels; what stays when an old stack goes on. -/
import Derived.Test.YtobccgjonpcpgaaRows
import Derived.Test.YtobccgjonpcpgaaPathM
namespace Go.Proofs.Ytobccgjonpcpgaa
open Go Go.RowKit
set_option linter.unusedVariables false
set_option linter.unusedSimpArgs false
namespace Pth
def strip (x : Lv) : Lv := { x with A := none, cap := 0 }
def Sim (a b : List Lv) : Prop := a.map strip = b.map strip
theorem Sim.len {a b : List Lv} (h : Sim a b) : a.length = b.length := by
  have := congrArg List.length h
  simpa using this
theorem leftN_strip (x : Lv) : leftN (strip x) = leftN x := rfl
theorem leftS_strip : ∀ l : List Lv, leftS (l.map strip) = leftS l
  | [] => rfl
  | x :: l => by rw [List.map_cons, leftS, leftS, leftS_strip l, leftN_strip]
theorem stepsOf_strip (l : List Lv) : stepsOf (l.map strip) = stepsOf l := by
  unfold stepsOf
  rw [List.map_map]
  rfl
theorem nextR_strip : ∀ l : List Lv, nextR (l.map strip) = (nextR l).map strip
  | [] => rfl
  | x :: l => by
    rw [List.map_cons, nextR, nextR, leftN_strip, nextR_strip l]
    split
    · rfl
    · rfl
theorem nextL_strip (l : List Lv) : nextL (l.map strip) = (nextL l).map strip := by
  unfold nextL
  rw [← List.map_reverse, nextR_strip, List.map_reverse]
theorem Sim.left {a b : List Lv} (h : Sim a b) : leftS a = leftS b := by rw [← leftS_strip a, ← leftS_strip b, h]
theorem Sim.steps {a b : List Lv} (h : Sim a b) : stepsOf a = stepsOf b := by rw [← stepsOf_strip a, ← stepsOf_strip b, h]
theorem Sim.next {a b : List Lv} (h : Sim a b) : Sim (nextL a) (nextL b) := by
  unfold Sim
  rw [← nextL_strip, ← nextL_strip, h]
theorem Sim.app {a b : List Lv} (h : Sim a b) (r c : Int) (A A' : Option Addr) (cap cap' : Nat) (vs : List Ch) (off : Bool) (at_ : Nat) : Sim (a ++ [⟨r, c, A, cap, vs, off, at_⟩]) (b ++ [⟨r, c, A', cap', vs, off, at_⟩]) := by
  unfold Sim
  rw [List.map_append, List.map_append, h]
  rfl
theorem Sim.fit {a b : List Lv} (h : Sim a b) (hf : ∀ x ∈ a, x.fit) : ∀ x ∈ b, x.fit := fun x hx => by
  have h1 : strip x ∈ a.map strip := by rw [h]; exact List.mem_map.2 ⟨x, hx, rfl⟩
  obtain ⟨y, hy, e⟩ := List.mem_map.1 h1
  have hy2 := hf y hy
  have e1 : y.vs = x.vs := by have := congrArg Lv.vs e; exact this
  have e2 : y.off = x.off := by have := congrArg Lv.off e; exact this
  have e3 : y.at_ = x.at_ := by have := congrArg Lv.at_ e; exact this
  unfold Lv.fit many at hy2 ⊢
  rw [e1, e2, e3] at hy2
  exact hy2
theorem nextR_A : ∀ (l : List Lv) (x : Lv), x ∈ nextR l → ∃ y ∈ l, y.A = x.A
  | [], x, h => by cases h
  | y :: l, x, h => by
    rw [nextR] at h
    split at h
    · rcases List.mem_cons.1 h with rfl | h
      · exact ⟨y, List.mem_cons_self, rfl⟩
      · exact ⟨x, List.mem_cons_of_mem _ h, rfl⟩
    · obtain ⟨z, hz, e⟩ := nextR_A l x h
      exact ⟨z, List.mem_cons_of_mem _ hz, e⟩
theorem nextL_A {l : List Lv} {x : Lv} (h : x ∈ nextL l) : ∃ y ∈ l, y.A = x.A := by
  obtain ⟨y, hy, e⟩ := nextR_A l.reverse x (List.mem_reverse.1 h)
  exact ⟨y, List.mem_reverse.1 hy, e⟩
theorem nextR_len : ∀ l : List Lv, (nextR l).length ≤ l.length
  | [] => Nat.le_refl _
  | y :: l => by
    rw [nextR]
    split
    · simp
    · have := nextR_len l; simp; omega
theorem nextL_len (l : List Lv) : (nextL l).length ≤ l.length := by
  unfold nextL
  have := nextR_len l.reverse
  simpa using this
/-- None of the levels has its values in block g. -/
def Away (g : Nat) (l : List Lv) : Prop := ∀ x ∈ l, x.A ≠ some ⟨g, 0, none⟩
theorem Away.next {g : Nat} {l : List Lv} (h : Away g l) : Away g (nextL l) := fun x hx e => by
  obtain ⟨y, hy, e'⟩ := nextL_A hx
  exact h y hy (e'.trans e)
theorem Away.app {g : Nat} {l : List Lv} {x : Lv} (h : Away g l) (hx : x.A ≠ some ⟨g, 0, none⟩) : Away g (l ++ [x]) := fun y hy => by
  rcases List.mem_append.1 hy with hy | hy
  · exact h y hy
  · rw [List.mem_singleton.1 hy]; exact hx
section
variable {w w' : World} {T U B C : Nat} {ls : List Lv}
theorem own_more {size n : Nat} {e : TypeId} {v : Value} {xs : List Value} (h : w.ownsRow B e size v n xs) (hC : C ≤ B) : w.ownsRow C e size v n xs := by
  refine ⟨h.1, h.2.imp id ?_⟩
  rintro ⟨g, cap, cur, rfl, hge, r⟩
  exact ⟨g, cap, cur, rfl, Nat.le_trans hC hge, r⟩
theorem StA.more (h : StA w T B ls) (hC : C ≤ B) : StA w T C ls := by
  obtain ⟨v, h1, h2⟩ := h.tab
  exact ⟨h.le, ⟨v, h1, own_more h2 hC⟩, h.rows⟩
theorem StB.more (h : StB w U B ls) (hC : C ≤ B) : StB w U C ls := by
  obtain ⟨v, u, t, h1, h2, h3, h4⟩ := h.tab
  exact ⟨h.le, ⟨v, u, t, h1, own_more h2 hC, own_more h3 hC, own_more h4 hC⟩, h.rows⟩
theorem StB.lt (h : StB w U B ls) : U < w.heap.size := by
  obtain ⟨v, u, t, h1, _⟩ := h.tab
  exact h1.lt
theorem StA.keep {tys : List TypeId} (h : StA w T B ls) (k : KeepsBut tys w w') (h1 : ¬ 52 ∈ tys) (h2 : ¬ 58 ∈ tys) (h3 : ¬ 43 ∈ tys) : StA w' T B ls := by
  obtain ⟨v, b, o⟩ := h.tab
  exact ⟨h.le, ⟨v, (k.2 T _ _ (0, 0) b h1).trans b, KeepsBut.own k o h2⟩, fun i hi => (h.rows i hi).keeps k h3⟩
theorem StB.keep {tys : List TypeId} (h : StB w U B ls) (k : KeepsBut tys w w') (h1 : ¬ 31 ∈ tys) (h2 : ¬ 34 ∈ tys) (h3 : ¬ 4 ∈ tys) (h4 : ¬ 3 ∈ tys) (h5 : ¬ 43 ∈ tys) : StB w' U B ls := by
  obtain ⟨v, u, t, b, o1, o2, o3⟩ := h.tab
  exact ⟨h.le, ⟨v, u, t, (k.2 U _ _ (0, 0) b h1).trans b, KeepsBut.own k o1 h2, KeepsBut.own k o2 h3, KeepsBut.own k o3 h4⟩, fun i hi => (h.rows i hi).keeps k h5⟩
/-- The blocks of an old stack are below. -/
theorem StA.below_size (h : StA w T B ls) : ∀ j ∈ stB w T, j < w.heap.size := fun j hj => by
  obtain ⟨v, b, o⟩ := h.tab
  have hc : w.cell? ⟨T, 1, none⟩ = some v := b.cell 1
  unfold stB at hj
  rw [hc] at hj
  rcases List.mem_cons.1 hj with rfl | hj
  · exact b.lt
  · exact (own_block o (Option.mem_toList.1 hj)).2.1
theorem stB_below (h : StA w T B ls) (hb : Below w.heap.size w w') : stB w' T = stB w T := by
  obtain ⟨v, b, o⟩ := h.tab
  have hc : w.cell? ⟨T, 1, none⟩ = some v := b.cell 1
  have hc' : w'.cell? ⟨T, 1, none⟩ = some v := (b.below hb b.lt).cell 1
  unfold stB
  rw [hc, hc']
/-- A newer stack, when an older one writes. -/
theorem StA.up {S : List Nat} (h : StA w T B ls) (hT : B ≤ T) (ho : Only S w w') (hS : ∀ j ∈ S, j < B) (k : KeepsBut [58, 52] w w') : StA w' T B ls := by
  obtain ⟨v, b, o⟩ := h.tab
  have far : ∀ j, B ≤ j → j < w.heap.size → w'.heap[j]? = w.heap[j]? := fun j h1 h2 => ho.2 j h2 fun hm => by have := hS j hm; omega
  refine ⟨h.le, ⟨v, (far T hT b.lt).trans b, ?_⟩, fun i hi => (h.rows i hi).keeps k (by decide)⟩
  refine ⟨o.1, o.2.imp id ?_⟩
  rintro ⟨g, cap, cur, rfl, hge, hh, r⟩
  exact ⟨g, cap, cur, rfl, hge, (far g hge (Array.getElem?_eq_some_iff.1 hh).1).trans hh, r⟩
/-- The row of points, where it lies. -/
theorem StB.row_lt (h : StB w U B ls) {j : Nat} (hj : rowOf w U = some j) : j < w.heap.size := by
  obtain ⟨v, u, t, b, o, _⟩ := h.tab
  unfold rowOf at hj
  rw [b.cell 0] at hj
  exact (own_block o hj).2.1
theorem rowOf_same {v u t : Value} (h : Blk w U 31 #[v, u, t]) (h' : Blk w' U 31 #[v, u, t]) : rowOf w' U = rowOf w U := by
  unfold rowOf
  rw [h.cell 0, h'.cell 0]
theorem StB.row_below (h : StB w U B ls) (hb : Below w.heap.size w w') : rowOf w' U = rowOf w U := by
  obtain ⟨v, u, t, b, _⟩ := h.tab
  exact rowOf_same b (b.below hb b.lt)
theorem StB.row_keep {tys : List TypeId} (h : StB w U B ls) (k : KeepsBut tys w w') (h1 : ¬ 31 ∈ tys) : rowOf w' U = rowOf w U := by
  obtain ⟨v, u, t, b, _⟩ := h.tab
  exact rowOf_same b ((k.2 U _ _ (0, 0) b h1).trans b)
theorem KeepsBut.blk {tys : List TypeId} {g : Nat} {t : TypeId} {cs : Array Value} (k : KeepsBut tys w w') (h : Blk w g t cs) (ht : ¬ t ∈ tys) : Blk w' g t cs := (k.2 g _ _ (0, 0) h ht).trans h
/-- A write to one block of choices, away from the levels. -/
theorem VRow.far {g k : Nat} {u : Value} {A : Option Addr} {l : List Ch} (h : VRow w A l) (hA : A ≠ some ⟨g, 0, none⟩) : VRow (w.setCell ⟨g, k, none⟩ u) A l := h.keep fun g' e => Below.heap_setCell w ⟨g, k, none⟩ u g' (by
  show g' ≠ g
  intro e'
  subst e'
  exact hA e)
theorem StA.far {g k : Nat} {u : Value} {cs : Array Value} (h : StA w T B ls) (hg : Blk w g 43 cs) (ha : Away g ls) : StA (w.setCell ⟨g, k, none⟩ u) T B ls := by
  obtain ⟨v, b, o⟩ := h.tab
  have kk := keeps_set (p := ⟨g, k, none⟩) hg u
  exact ⟨h.le, ⟨v, KeepsBut.blk kk b (by decide), KeepsBut.own kk o (by decide)⟩, fun i hi => (h.rows i hi).far (ha _ (List.getElem_mem hi))⟩
theorem StB.far {g k : Nat} {u : Value} {cs : Array Value} (h : StB w U B ls) (hg : Blk w g 43 cs) (ha : Away g ls) : StB (w.setCell ⟨g, k, none⟩ u) U B ls := by
  obtain ⟨v, x, t, b, o1, o2, o3⟩ := h.tab
  have kk := keeps_set (p := ⟨g, k, none⟩) hg u
  exact ⟨h.le, ⟨v, x, t, KeepsBut.blk kk b (by decide), KeepsBut.own kk o1 (by decide), KeepsBut.own kk o2 (by decide), KeepsBut.own kk o3 (by decide)⟩, fun i hi => (h.rows i hi).far (ha _ (List.getElem_mem hi))⟩
theorem StA.away (h : StA w T B ls) {g : Nat} (hg : w.heap.size ≤ g) : Away g ls := fun x hx e => by
  obtain ⟨i, hi, rfl⟩ := List.getElem_of_mem hx
  have := (h.rows i hi).lt e
  omega
theorem StB.away (h : StB w U B ls) {g : Nat} (hg : w.heap.size ≤ g) : Away g ls := fun x hx e => by
  obtain ⟨i, hi, rfl⟩ := List.getElem_of_mem hx
  have := (h.rows i hi).lt e
  omega
end
end Pth
end Go.Proofs.Ytobccgjonpcpgaa
