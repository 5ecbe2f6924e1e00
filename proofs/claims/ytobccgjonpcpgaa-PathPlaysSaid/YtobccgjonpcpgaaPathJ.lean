/- The reference's stack: many, Left. -/
import Derived.Test.YtobccgjonpcpgaaRows
import Derived.Test.YtobccgjonpcpgaaPathI
import Derived.Test.YtobccgjonpcpgaaAppE
namespace Go.Proofs.Ytobccgjonpcpgaa
open Go Go.RowKit
set_option linter.unusedVariables false
set_option linter.unusedSimpArgs false
namespace Pth
def ptC (x : Lv) : List Value := [.int .i64 x.r, .int .i64 x.c, .slice x.A x.vs.length x.cap]
def ptCs (l : List Lv) : List Value := l.flatMap ptC
def ofCs (l : List Lv) : List Value := l.map fun x => .bool x.off
def atCs (l : List Lv) : List Value := l.map fun x => .int .i64 x.at_
theorem ptCs_app (a b : List Lv) : ptCs (a ++ b) = ptCs a ++ ptCs b := by simp [ptCs]
theorem ofCs_app (a b : List Lv) : ofCs (a ++ b) = ofCs a ++ ofCs b := by simp [ofCs]
theorem atCs_app (a b : List Lv) : atCs (a ++ b) = atCs a ++ atCs b := by simp [atCs]
theorem ptC_len (x : Lv) : (ptC x).length = 3 := rfl
theorem ptCs_cons (t : Lv) (l : List Lv) : ptCs (t :: l) = ptC t ++ ptCs l := rfl
theorem ptCs_at : ∀ (l : List Lv) (i : Nat) (hi : i < l.length) (j : Nat), j < 3 → (ptCs l)[i * 3 + j]? = (ptC l[i])[j]?
  | t :: l, 0, _, j, hj => by
    rw [ptCs_cons, List.getElem?_append_left (by rw [ptC_len]; omega)]
    simp
  | t :: l, i + 1, hi, j, hj => by
    have e : (i + 1) * 3 + j = (ptC t).length + (i * 3 + j) := by rw [ptC_len]; omega
    rw [ptCs_cons, e, List.getElem?_append_right (by omega), Nat.add_sub_cancel_left]
    exact ptCs_at l i (by simpa using hi) j hj
/-- The reference's stack at block U, its rows at blocks from B on. -/
structure StB (w : World) (U B : Nat) (ls : List Lv) : Prop where
  le : ls.length ≤ 2000
  tab : ∃ v u t, Blk w U 31 #[v, u, t] ∧ w.ownsRow B 34 3 v ls.length (ptCs ls) ∧ w.ownsRow B 4 1 u ls.length (ofCs ls) ∧ w.ownsRow B 3 1 t ls.length (atCs ls)
  rows : ∀ i (h : i < ls.length), VRow w ls[i].A ls[i].vs
theorem StB.below {w w' : World} {U B : Nat} {ls : List Lv} (h : StB w U B ls) (hb : Below w.heap.size w w') : StB w' U B ls := by
  refine ⟨h.le, ?_, fun i hi => (h.rows i hi).keep fun g hg => hb.block g ((h.rows i hi).lt hg)⟩
  obtain ⟨v, u, t, h1, h2, h3, h4⟩ := h.tab
  exact ⟨v, u, t, h1.below hb h1.lt, own_belowR h2 hb, own_belowR h3 hb, own_belowR h4 hb⟩
/-- A row's cells, where it has an element. -/
theorem own_cell {w : World} {B size n : Nat} {e : TypeId} {A : Option Addr} {c m : Nat} {xs : List Value} (h : w.ownsRow B e size (.slice A m c) n xs) (hn : 0 < n) : ∃ g, A = some ⟨g, 0, none⟩ ∧ B ≤ g ∧ m = n ∧ (∃ cs, Blk w g e cs) ∧ (∀ k, w.frozen? ⟨g, k, none⟩ = false) ∧ n ≤ c ∧ ∀ k u, xs[k]? = some u → w.cell? ⟨g, k, none⟩ = some u := by
  rcases h.2 with ⟨_, h0⟩ | ⟨g, cap, cur, hv, hge, hh, hnc, _, hcs, htk⟩
  · omega
  · injection hv with h1 h2 h3
    subst h1
    subst h2
    subst h3
    have hB : Blk w g e cur := hh
    refine ⟨g, rfl, hge, rfl, ⟨cur, hB⟩, hB.frozen, hnc, fun k u hu => ?_⟩
    rw [← htk, List.getElem?_take] at hu
    split at hu
    · rw [hB.cell]
      simpa using hu
    · cases hu
theorem StB.open_ {w : World} {U B : Nat} {ls : List Lv} (h : StB w U B ls) : ∃ A c A2 c2 A3 c3, Blk w U 31 #[.slice A ls.length c, .slice A2 ls.length c2, .slice A3 ls.length c3] ∧
    w.ownsRow B 34 3 (.slice A ls.length c) ls.length (ptCs ls) ∧ w.ownsRow B 4 1 (.slice A2 ls.length c2) ls.length (ofCs ls) ∧ w.ownsRow B 3 1 (.slice A3 ls.length c3) ls.length (atCs ls) ∧
    ∀ i (hi : i < ls.length), ∃ g g2 g3, A = some ⟨g, 0, none⟩ ∧ A2 = some ⟨g2, 0, none⟩ ∧ A3 = some ⟨g3, 0, none⟩ ∧ w.cell? ⟨g, i * 3, none⟩ = some (.int .i64 ls[i].r) ∧ w.cell? ⟨g, i * 3 + 1, none⟩ = some (.int .i64 ls[i].c) ∧ w.cell? ⟨g, i * 3 + 2, none⟩ = some (.slice ls[i].A ls[i].vs.length ls[i].cap) ∧ w.cell? ⟨g2, i, none⟩ = some (.bool ls[i].off) ∧ w.cell? ⟨g3, i, none⟩ = some (.int .i64 ls[i].at_) ∧ w.frozen? ⟨g3, i, none⟩ = false := by
  obtain ⟨v, u, t, hb, o1, o2, o3⟩ := h.tab
  obtain ⟨A, c, rfl⟩ := own_form o1
  obtain ⟨A2, c2, rfl⟩ := own_form o2
  obtain ⟨A3, c3, rfl⟩ := own_form o3
  refine ⟨A, c, A2, c2, A3, c3, hb, o1, o2, o3, fun i hi => ?_⟩
  obtain ⟨g, e1, _, _, _, _, _, h1⟩ := own_cell o1 (by omega)
  obtain ⟨g2, e2, _, _, _, _, _, h2⟩ := own_cell o2 (by omega)
  obtain ⟨g3, e3, _, _, _, hf3, _, h3⟩ := own_cell o3 (by omega)
  have hp : ∀ j u, j < 3 → (ptC ls[i])[j]? = some u → w.cell? ⟨g, i * 3 + j, none⟩ = some u := fun j u hj hu => h1 _ _ (by rw [ptCs_at ls i hi j hj]; exact hu)
  exact ⟨g, g2, g3, e1, e2, e3, hp 0 _ (by omega) rfl, hp 1 _ (by omega) rfl, hp 2 _ (by omega) rfl, h2 _ _ (by simp [ofCs, hi]), h3 _ _ (by simp [atCs, hi]), hf3 i⟩
set_option maxRecDepth 100000 in
set_option maxHeartbeats 4000000 in
theorem many_b (U B : Nat) (ls : List Lv) (i : Nat) (hi : i < ls.length) (w : World) (ht : StB w U B ls) (hv : ls[i].vs.length ≤ 1000) :
    Calls Try.prog 24 #[.pointer (some ⟨U, 0, none⟩), .int .i64 i] w fun e w' => e = .returned (.int .i64 (many ls[i])) ∧ w = w' := by
  obtain ⟨A, c, A2, c2, A3, c3, hb, _, _, _, hcc⟩ := ht.open_
  obtain ⟨g, g2, g3, rfl, rfl, rfl, p0, p1, p2, p3, p4, _⟩ := hcc i hi
  have u0 : w.cell? ⟨U, 0, none⟩ = some (.slice (some ⟨g, 0, none⟩) ls.length c) := hb.cell 0
  have u1 : w.cell? ⟨U, 1, none⟩ = some (.slice (some ⟨g2, 0, none⟩) ls.length c2) := hb.cell 1
  have hiI : (i : Int) < (ls.length : Int) := by omega
  have HI := hide hi
  clear ht hb hcc
  generalize ls[i] = x at *
  obtain ⟨r, cc, xA, xcap, vs, off, at_⟩ := x
  simp only at p0 p1 p2 p3 p4 hv
  clear hi
  cases off
  · have E : Hid (many ⟨r, cc, xA, xcap, vs, false, at_⟩ = vs.length) := hide (by simp [many])
    go_enter Try.func24, Try.ntmps24
    go_wp2_with fail
    go_ret
    exact ⟨by rw [E.out]; rfl, rfl⟩
  · have E : Hid (many ⟨r, cc, xA, xcap, vs, true, at_⟩ = vs.length + 1) := hide (by simp [many])
    go_enter Try.func24, Try.ntmps24
    go_wp2_with fail
    go_ret
    refine ⟨?_, rfl⟩
    rw [E.out]
    go_num
end Pth
end Go.Proofs.Ytobccgjonpcpgaa
