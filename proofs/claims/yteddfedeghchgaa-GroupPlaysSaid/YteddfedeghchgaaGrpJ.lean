/- A rank's handles, as the reference keeps them: New. -/
import Derived.Test.YteddfedeghchgaaRows
import Derived.Test.YteddfedeghchgaaGrpI
namespace Go.Proofs.Yteddfedeghchgaa
open Go.RowKit
set_option linter.unusedVariables false
set_option linter.unusedSimpArgs false
namespace Grp
def hgC (h : He) : List Value := [.string h.key, .slice h.A h.l.length h.cap]
def hgCs (l : List He) : List Value := l.flatMap hgC
theorem hgCs_cons (t : He) (l : List He) : hgCs (t :: l) = hgC t ++ hgCs l := rfl
theorem hgC_len (t : He) : (hgC t).length = 2 := rfl
theorem hgCs_at : ∀ (l : List He) (i : Nat) (hi : i < l.length) (j : Nat), j < 2 → (hgCs l)[i * 2 + j]? = (hgC l[i])[j]?
  | t :: l, 0, _, j, hj => by
    rw [hgCs_cons, List.getElem?_append_left (by rw [hgC_len]; omega)]
    simp
  | t :: l, i + 1, hi, j, hj => by
    have e : (i + 1) * 2 + j = (hgC t).length + (i * 2 + j) := by rw [hgC_len]; omega
    rw [hgCs_cons, e, List.getElem?_append_right (by omega), Nat.add_sub_cancel_left]
    exact hgCs_at l i (by simpa using hi) j hj
def gnC (hs : List He) : List Value := hs.map fun h => .bool h.gone
/-- The reference's table at block U, its rows at blocks from B on. -/
structure TabB (w : World) (U B : Nat) (hs : List He) : Prop where
  pos : 0 < hs.length
  le : hs.length ≤ 32
  tab : ∃ v u, Blk w U 53 #[v, u] ∧ w.ownsRow B 24 2 v hs.length (hgCs hs) ∧ w.ownsRow B 4 1 u hs.length (gnC hs)
  rows : ∀ i (h : i < hs.length), IRow w hs[i].A hs[i].l ∧ mayL hs[i].l
theorem TabB.below {w w' : World} {U B : Nat} {hs : List He} (h : TabB w U B hs) (hb : Below w.heap.size w w') : TabB w' U B hs := by
  refine ⟨h.pos, h.le, ?_, fun i hi => ⟨(h.rows i hi).1.below hb, (h.rows i hi).2⟩⟩
  obtain ⟨v, u, h1, h2, h3⟩ := h.tab
  exact ⟨v, u, h1.below hb h1.lt, own_belowR h2 hb, own_belowR h3 hb⟩
theorem KeepsBut.own {tys : List TypeId} {w w' : World} {B size n : Nat} {e : TypeId} {v : Value} {xs : List Value} (k : KeepsBut tys w w') (h : w.ownsRow B e size v n xs) (he : ¬ e ∈ tys) : w'.ownsRow B e size v n xs := by
  refine ⟨h.1, h.2.imp id ?_⟩
  rintro ⟨g, cap, cur, rfl, hge, hh, r⟩
  exact ⟨g, cap, cur, rfl, hge, (k.2 g _ _ _ hh he).trans hh, r⟩
/-- What is done to the program's table leaves the reference's, and the other way about. -/
theorem TabB.keep {tys : List TypeId} {w w' : World} {U B : Nat} {hs : List He} (h : TabB w U B hs) (k : KeepsBut tys w w') (h1 : ¬ 53 ∈ tys) (h2 : ¬ 24 ∈ tys) (h3 : ¬ 4 ∈ tys) (h4 : ¬ 3 ∈ tys) : TabB w' U B hs := by
  refine ⟨h.pos, h.le, ?_, fun i hi => ⟨(h.rows i hi).1.keep fun g cs hh => k.2 g _ _ _ hh h4, (h.rows i hi).2⟩⟩
  obtain ⟨v, u, b, o1, o2⟩ := h.tab
  exact ⟨v, u, (k.2 U _ _ _ b h1).trans b, KeepsBut.own k o1 h2, KeepsBut.own k o2 h3⟩
theorem TabA.keep {tys : List TypeId} {w w' : World} {T B : Nat} {hs : List He} (h : TabA w T B hs) (k : KeepsBut tys w w') (h1 : ¬ 60 ∈ tys) (h2 : ¬ 57 ∈ tys) (h4 : ¬ 3 ∈ tys) : TabA w' T B hs := by
  refine ⟨h.pos, h.le, ?_, fun i hi => ⟨(h.rows i hi).1.keep fun g cs hh => k.2 g _ _ _ hh h4, (h.rows i hi).2⟩⟩
  obtain ⟨v, b, o1⟩ := h.tab
  exact ⟨v, (k.2 T _ _ _ b h1).trans b, KeepsBut.own k o1 h2⟩
theorem IRow.of_own {w : World} {B c : Nat} {A : Option Addr} {l : List Int} (h : w.ownsRow B 3 1 (.slice A l.length c) l.length (ints l)) (h0 : 0 < l.length) : IRow w A l := by
  rcases h.2 with ⟨_, h1⟩ | ⟨g, cap, cur, hv, hge, hh, hnc, _, hcs, htk⟩
  · omega
  · injection hv with hv
    subst hv
    refine ⟨g, cur, rfl, hh, fun i hi => ?_⟩
    have e := ints_at hi
    rw [← htk, List.getElem?_take] at e
    split at e
    · simpa using e
    · cases e
set_option maxRecDepth 100000 in
set_option maxHeartbeats 2000000 in
theorem New_b (key : ByteArray) (A : Option Addr) (cap : Nat) (l : List Int) (w : World) (h : NRow w A l) (hl : l.length ≤ 1000) :
    Calls Try.prog 6 #[.agg #[.string key, .slice A l.length cap]] w fun e w' => (if mayL l then ∃ U A' c', e = .returned (.tuple #[.pointer (some ⟨U, 0, none⟩), .int .i64 0]) ∧ w.heap.size ≤ U ∧ TabB w' U w.heap.size [⟨key, A', c', l, false⟩] else e = .returned (.tuple #[.pointer none, .int .i64 2])) ∧ Below w.heap.size w w' := by
  have b1 := Blk.new w 24 #[.string key, .slice A l.length cap]
  have hb1 := (Below.refl w.heap.size w).alloc (Nat.le_refl _) (.cells #[.string key, .slice A l.length cap] 24)
  obtain ⟨W1, hW1⟩ : ∃ W1, w.alloc (.cells #[.string key, .slice A l.length cap] 24) = W1 := ⟨_, rfl⟩
  rw [hW1] at b1 hb1
  have q0 : W1.cell? ⟨w.heap.size, 0, none⟩ = some (.string key) := b1.cell 0
  have q1 : W1.cell? ⟨w.heap.size, 1, none⟩ = some (.slice A l.length cap) := b1.cell 1
  have M := hide (May_b key A cap l W1 (h.below hb1) hl)
  have O := hide (fun w2 (hb2 : Below W1.heap.size W1 w2) => Copy_b key A cap l w2 ((h.below hb1).below hb2) hl)
  have HB := hide hb1
  have B1 := hide b1
  clear h b1 hb1
  by_cases hm : mayL l
  · rw [decide_eq_true hm] at M
    have HM := hide hm
    clear hm
    go_enter Try.func6, Try.ntmps6
    go_wp2_with fail
    refine M.out.mono ?_
    rintro e w2 ⟨rfl, hb2⟩
    have b2 := B1.out.below hb2 B1.out.lt
    have q0' : w2.cell? ⟨w.heap.size, 0, none⟩ = some (.string key) := b2.cell 0
    have q1' : w2.cell? ⟨w.heap.size, 1, none⟩ = some (.slice A l.length cap) := b2.cell 1
    have HB2 := hide (HB.out.trans (hb2.mono HB.out.size))
    have O2 := hide (O.out w2 hb2)
    clear hb2 b2 q0 q1
    go_wp2_with fail
    refine O2.out.mono ?_
    rintro e w3 ⟨v, rfl, ho, hb3⟩
    obtain ⟨A', c', rfl⟩ := own_form ho
    have HB3 := hide (HB2.out.trans (hb3.mono HB2.out.size))
    have G3 := hide (IRow.of_own ho (by have := HM.out.1; omega))
    clear ho hb3 q0' q1'
    go_wp2_with fail
    go_ret2
    have hs3 := HB3.out.size
    have x1 := HB3.out.alloc hs3 (.cells #[.string key, .slice A' l.length c'] 24)
    have x2 := x1.alloc (by simp; omega) (.cells #[.bool false] 4)
    have x3 := x2.alloc (by simp; omega) (.cells #[.slice (some ⟨w3.heap.size, 0, none⟩) 1 1, .slice (some ⟨w3.heap.size + 1, 0, none⟩) 1 1] 53)
    have y1 := ((Blk.new w3 24 #[.string key, .slice A' l.length c']).alloc (.cells #[.bool false] 4)).alloc (.cells #[.slice (some ⟨w3.heap.size, 0, none⟩) 1 1, .slice (some ⟨w3.heap.size + 1, 0, none⟩) 1 1] 53)
    have y2 := (Blk.new (w3.alloc (.cells #[.string key, .slice A' l.length c'] 24)) 4 #[.bool false]).alloc (.cells #[.slice (some ⟨w3.heap.size, 0, none⟩) 1 1, .slice (some ⟨w3.heap.size + 1, 0, none⟩) 1 1] 53)
    have y3 := Blk.new ((w3.alloc (.cells #[.string key, .slice A' l.length c'] 24)).alloc (.cells #[.bool false] 4)) 53 #[.slice (some ⟨w3.heap.size, 0, none⟩) 1 1, .slice (some ⟨w3.heap.size + 1, 0, none⟩) 1 1]
    have ir := G3.out.below ((((Below.refl w3.heap.size w3).alloc (Nat.le_refl _) (.cells #[.string key, .slice A' l.length c'] 24)).alloc (by simp) (.cells #[.bool false] 4)).alloc (by simp; omega) (.cells #[.slice (some ⟨w3.heap.size, 0, none⟩) 1 1, .slice (some ⟨w3.heap.size + 1, 0, none⟩) 1 1] 53))
    rw [show (w3.alloc (.cells #[.string key, .slice A' l.length c'] 24)).heap.size = w3.heap.size + 1 by simp] at y2
    rw [show ((w3.alloc (.cells #[.string key, .slice A' l.length c'] 24)).alloc (.cells #[.bool false] 4)).heap.size = w3.heap.size + 1 + 1 by simp] at y3
    refine ⟨⟨w3.heap.size + 1 + 1, rfl, by omega, A', c', ?_⟩, x3⟩
    refine ⟨by simp, by simp, ⟨_, _, y3, ⟨by simp [hgCs, hgC], .inr ⟨w3.heap.size, 1, _, rfl, hs3, y1, Nat.le_refl _, by unfold maxLen; omega, by simp, by simp [hgCs, hgC]⟩⟩, ⟨by simp [gnC], .inr ⟨w3.heap.size + 1, 1, _, rfl, by omega, y2, Nat.le_refl _, by unfold maxLen; omega, by simp, by simp [gnC]⟩⟩⟩, fun i hi => ?_⟩
    obtain rfl : i = 0 := by simpa using hi
    exact ⟨ir, HM.out⟩
  · rw [decide_eq_false hm] at M
    have HM := hide hm
    clear hm
    go_enter Try.func6, Try.ntmps6
    go_wp2_with fail
    refine M.out.mono ?_
    rintro e w2 ⟨rfl, hb2⟩
    have HB2 := hide (HB.out.trans (hb2.mono HB.out.size))
    clear hb2
    go_wp2_with fail
    go_ret2
    exact ⟨rfl, HB2.out⟩
end Grp
end Go.Proofs.Yteddfedeghchgaa
