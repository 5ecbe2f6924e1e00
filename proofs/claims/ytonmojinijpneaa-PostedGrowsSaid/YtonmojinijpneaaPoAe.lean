/- A row of rows of messages. -/
import Derived.Test.YtonmojinijpneaaRows
import Derived.Test.YtonmojinijpneaaPoAc
namespace Go.Proofs.Ytonmojinijpneaa
open Go Go.RowKit Go.Lib Go.Joins Go.Proofs.Ytonmojinijpneaa.Qu
set_option linter.unusedVariables false
set_option linter.unusedSimpArgs false
namespace Po
theorem PQ.keep {w w' : World} {p q : Nat} {L : Nat → Option Addr × Nat} {K : QL} {ls : Nat → List Rc} {l : List Msg} (h : PQ w p q L K ls l) (hk : ∀ b ∈ foot2 p q L K, w'.heap[b]? = w.heap[b]?) : PQ w' p q L K ls l :=
  ⟨h.hp.heap fun b hb => hk b (List.mem_append_left _ hb), h.hq.keep fun b hb => hk b (List.mem_append_right _ hb), h.ap⟩
theorem MRow.heap {w w' : World} {A : Option Addr} {r : List Msg} (h : MRow w A r) (hs : w.heap.size ≤ w'.heap.size) (hk : ∀ g, A = some ⟨g, 0, none⟩ → w'.heap[g]? = w.heap[g]?) : MRow w' A r := ⟨fun i m hm => by
  obtain ⟨g, hA, hg, hc⟩ := h.it i m hm
  exact ⟨g, hA, Nat.lt_of_lt_of_le hg hs, fun k v hv => (World.cell?_of_block (w := w) (w' := w') (a := ⟨g, _, none⟩) (hk g hA)).trans (hc k v hv)⟩⟩
theorem RRow.heap {w w' : World} {A : Option Addr} {r : List Rc} (h : RRow w A r) (hs : w.heap.size ≤ w'.heap.size) (hk : ∀ g, A = some ⟨g, 0, none⟩ → w'.heap[g]? = w.heap[g]?) : RRow w' A r := ⟨fun i m hm => by
  obtain ⟨g, hA, hg, hc⟩ := h.it i m hm
  exact ⟨g, hA, Nat.lt_of_lt_of_le hg hs, fun k v hv => (World.cell?_of_block (w := w) (w' := w') (a := ⟨g, _, none⟩) (hk g hA)).trans (hc k v hv)⟩⟩
def rowsV (nw : Nat) (R : Nat → List Msg) (V : Nat → Option Addr × Nat) : List Value := (List.range nw).map fun i => .slice (V i).1 (R i).length (V i).2
theorem rowsV_at {nw i : Nat} (R : Nat → List Msg) (V : Nat → Option Addr × Nat) (h : i < nw) : (rowsV nw R V)[i]? = some (.slice (V i).1 (R i).length (V i).2) := by
  unfold rowsV
  rw [List.getElem?_map, List.getElem?_range h]
  rfl
/-- One row's messages lie away from all, and from a block. -/
def RowA (w : World) (p q : Nat) (L : Nat → Option Addr × Nat) (K : QL) (A : Option Addr) (r : List Msg) (o : Option Nat) : Prop := MRow w A r ∧ (r ≠ [] → ∃ g, A = some ⟨g, 0, none⟩ ∧ Away w p q L K g ∧ o ≠ some g)
/-- Rows of messages, in a row. -/
structure Was (w : World) (B p q : Nat) (L : Nat → Option Addr × Nat) (K : QL) (As : Option Addr) (cs nw : Nat) (R : Nat → List Msg) (V : Nat → Option Addr × Nat) : Prop where
  own : w.ownsRow B 45 1 (.slice As nw cs) nw (rowsV nw R V)
  gaw : ∀ g, (Value.slice As nw cs).ownBlock = some g → Away w p q L K g
  row : ∀ i, i < nw → RowA w p q L K (V i).1 (R i) (Value.slice As nw cs).ownBlock
variable {w w' : World} {B p q : Nat} {L L' : Nat → Option Addr × Nat} {K K' : QL} {As : Option Addr} {cs nw : Nat} {R : Nat → List Msg} {V : Nat → Option Addr × Nat} {o : Option Nat}
theorem RowA.go {A : Option Addr} {r : List Msg} (h : RowA w p q L K A r o) (hs : w.heap.size ≤ w'.heap.size) (hw : ∀ g, Away w p q L K g → Away w' p q L' K' g ∧ w'.heap[g]? = w.heap[g]?) : RowA w' p q L' K' A r o := by
  by_cases e : r = []
  · subst e
    exact ⟨⟨fun i m hm => by cases hm⟩, fun h => absurd rfl h⟩
  · obtain ⟨g, hA, ha, ho⟩ := h.2 e
    refine ⟨MRow.heap h.1 hs fun g' hg' => ?_, fun _ => ⟨g, hA, (hw g ha).1, ho⟩⟩
    rw [hA] at hg'
    cases hg'
    exact (hw g ha).2
theorem Was.go (h : Was w B p q L K As cs nw R V) (hs : w.heap.size ≤ w'.heap.size) (hw : ∀ g, Away w p q L K g → Away w' p q L' K' g ∧ w'.heap[g]? = w.heap[g]?) : Was w' B p q L' K' As cs nw R V :=
  ⟨own_keepV h.own fun g hg => (hw g (h.gaw g hg)).2, fun g hg => (hw g (h.gaw g hg)).1, fun i hi => (h.row i hi).go hs hw⟩
theorem away_below (hb : Below w.heap.size w w') : ∀ g, Away w p q L K g → Away w' p q L K g ∧ w'.heap[g]? = w.heap[g]? := fun g hg => ⟨⟨Nat.lt_of_lt_of_le hg.1 hb.size, hg.2⟩, hb.block g hg.1⟩
theorem Was.below (h : Was w B p q L K As cs nw R V) (hb : Below w.heap.size w w') : Was w' B p q L K As cs nw R V := h.go hb.size (away_below hb)
/-- A row that was just made. -/
theorem RowA.of {A : Option Addr} {n c : Nat} {r : List Msg} (h : w'.ownsRow w.heap.size 33 8 (.slice A n c) n (msgCs r)) (hn : r.length = n) (hl : ∀ b ∈ foot2 p q L K, b < w.heap.size) (ho : ∀ g, o = some g → g < w.heap.size) : RowA w' p q L K A r o :=
  ⟨MRow.of_own h hn, fun hr => by
    have : 0 < n := by rw [← hn]; exact List.length_pos_iff.2 hr
    obtain ⟨g, hA, hge, _, ⟨cs, hb⟩, _⟩ := own_cell h this
    exact ⟨g, hA, ⟨hb.lt, fun hm => by have := hl g hm; omega⟩, fun e => by have := ho g e; omega⟩⟩
theorem RowA.none_ {A : Option Addr} : RowA w p q L K A [] o := ⟨⟨fun i m hm => by cases hm⟩, fun h => absurd rfl h⟩
/-- One of the rows is set. -/
theorem Was.set_ (h : Was w B p q L K As cs nw R V) {i : Nat} (hi : i < nw) {A : Option Addr} {c n : Nat} {r : List Msg} (hn : r.length = n) (hr : RowA w p q L K A r (Value.slice As nw cs).ownBlock) :
    ∃ gs, As = some ⟨gs, 0, none⟩ ∧ B ≤ gs ∧ nw ≤ cs ∧ w.cell? ⟨gs, i, none⟩ = some (.slice (V i).1 (R i).length (V i).2) ∧ w.frozen? ⟨gs, i, none⟩ = false ∧ Away w p q L K gs ∧
      Was (w.setCell ⟨gs, i, none⟩ (.slice A n c)) B p q L K As cs nw (updF R i r) (updF V i (A, c)) ∧ Ch [gs] w (w.setCell ⟨gs, i, none⟩ (.slice A n c)) := by
  obtain ⟨gs, hA, hge, _, _, hfz, hnc, hc⟩ := own_cell h.own (by omega)
  subst hA
  have hob : (Value.slice (some ⟨gs, 0, none⟩) nw cs).ownBlock = some gs := rfl
  have hch := Ch.set_ (S := [gs]) w (p := ⟨gs, i, none⟩) (.slice A n c) List.mem_cons_self
  have haw := h.gaw gs hob
  have hk : ∀ g, Away w p q L K g → g ≠ gs → Away (w.setCell ⟨gs, i, none⟩ (.slice A n c)) p q L K g ∧ (w.setCell ⟨gs, i, none⟩ (.slice A n c)).heap[g]? = w.heap[g]? := fun g hg hne => ⟨⟨Nat.lt_of_lt_of_le hg.1 hch.size, hg.2⟩, hch.block g hg.1 fun hm => hne (List.mem_singleton.1 hm)⟩
  have hrow : ∀ {A' : Option Addr} {r' : List Msg}, RowA w p q L K A' r' (Value.slice (some ⟨gs, 0, none⟩) nw cs).ownBlock → RowA (w.setCell ⟨gs, i, none⟩ (.slice A n c)) p q L K A' r' (Value.slice (some ⟨gs, 0, none⟩) nw cs).ownBlock := fun {A' r'} hr' => by
    by_cases e : r' = []
    · subst e; exact RowA.none_
    · obtain ⟨g, hA', ha, hne⟩ := hr'.2 e
      have hne' : g ≠ gs := fun e2 => hne (by rw [e2]; exact hob)
      exact ⟨MRow.heap hr'.1 hch.size fun g' hg' => by rw [hA'] at hg'; cases hg'; exact (hk g ha hne').2, fun _ => ⟨g, hA', (hk g ha hne').1, hne⟩⟩
  refine ⟨gs, rfl, hge, hnc, hc i _ (rowsV_at R V hi), hfz i, haw, ⟨?_, fun g hg => ?_, fun j hj => ?_⟩, hch⟩
  · have h1 := own_set (k := i) h.own (.slice A n c)
    have h2 : (rowsV nw R V).set i (.slice A n c) = rowsV nw (updF R i r) (updF V i (A, c)) := by
      refine List.ext_getElem? fun j => ?_
      rw [List.getElem?_set]
      by_cases hj : j < nw
      · rw [rowsV_at (updF R i r) (updF V i (A, c)) hj]
        by_cases e : i = j
        · subst e
          rw [if_pos rfl, if_pos (by unfold rowsV; simpa using hi), updF_at, updF_at, hn]
        · rw [if_neg e, rowsV_at R V hj, updF_ne R i _ (fun e2 => e e2.symm), updF_ne V i _ (fun e2 => e e2.symm)]
      · rw [List.getElem?_eq_none (l := rowsV nw (updF R i r) (updF V i (A, c))) (by unfold rowsV; simp; omega)]
        by_cases e : i = j
        · omega
        · rw [if_neg e]
          exact List.getElem?_eq_none (by unfold rowsV; simp; omega)
    rw [h2] at h1
    exact h1
  · rw [hob] at hg
    cases hg
    exact ⟨Nat.lt_of_lt_of_le haw.1 hch.size, haw.2⟩
  · by_cases e : j = i
    · subst e
      rw [updF_at, updF_at]
      exact hrow hr
    · rw [updF_ne R i _ e, updF_ne V i _ e]
      exact hrow (h.row j hj)
theorem ws_info : (Try.prog.info? 45).map (fun i => (i.zero, i.size, i.bytes)) = some (some (.slice none 0 0), 1, 24) := by kernel_rfl
set_option maxRecDepth 100000 in
/-- A row more. -/
theorem Was.push (h : Was w B p q L K As cs nw R V) (hB : B ≤ w.heap.size) (hfl : ∀ b ∈ foot2 p q L K, b < w.heap.size) (hl : nw ≤ 1000) {A : Option Addr} {c n : Nat} {r : List Msg} (hn : r.length = n) (hr : RowA w p q L K A r (Value.slice As nw cs).ownBlock) :
    ∃ A1 c1 w1, (Builtin.append_ #[69, 69] 69 #[.slice As nw cs, .slice (some ⟨w.heap.size, 0, none⟩) 1 1]).run Try.prog (w.alloc (.cells #[.slice A n c] 45)) = .ok (.slice A1 (nw + 1) c1) w1 ∧
      Was w1 B p q L K A1 c1 (nw + 1) (updF R nw r) (updF V nw (A, c)) ∧ Below B w w1 := by
  have ba := (Below.refl w.heap.size w).alloc (Nat.le_refl _) (.cells #[.slice A n c] 45)
  have kb := Blk.new w 45 #[.slice A n c]
  have ow := own_belowR h.own ba
  obtain ⟨Wz, hWz⟩ : ∃ x', w.alloc (.cells #[.slice A n c] 45) = x' := ⟨_, rfl⟩
  have hs1 : Wz.heap.size = w.heap.size + 1 := by rw [← hWz]; simp
  rw [hWz] at ba kb ow ⊢
  have hrd : Reads Wz Wz.heap.size 1 (some ⟨w.heap.size, 0, none⟩) 1 [.slice A n c] := ⟨rfl, fun _ => ⟨_, rfl, kb.lt, fun j u hu => by rw [add_lit, kb.cell]; simpa using hu⟩⟩
  obtain ⟨i0, hi0, hz0', hz1, hz2⟩ := info_parts ws_info
  obtain ⟨v11, w11, hrun, hown, hk11, hob⟩ := run_append_any (P := Try.prog) Wz B 69 69 45 i0 _ 1 24 Try.underlying69 hi0 hz0' hz1 hz2 (by rfl) (by omega) _ _ _ ow Wz.heap.size (some ⟨w.heap.size, 0, none⟩) 1 1 _ hrd (by intro u hu; rw [List.mem_singleton] at hu; subst hu; rfl) (by unfold maxLen; omega) (by omega) (by omega)
  obtain ⟨A11, c11, rfl⟩ := own_form hown
  have hg : w.grownBy w11 (Value.slice As nw cs).ownBlock := gtrans (grown_of_below ba) hk11
  have hbel : Below B w w11 := (Below.refl B w).grown hg hB fun k e => (own_block h.own e).1
  have hown' : w11.ownsRow B 45 1 (.slice A11 (nw + 1) c11) (nw + 1) (rowsV (nw + 1) (updF R nw r) (updF V nw (A, c))) := by
    have e : rowsV (nw + 1) (updF R nw r) (updF V nw (A, c)) = rowsV nw R V ++ [.slice A n c] := by
      unfold rowsV
      rw [List.range_succ, List.map_append, List.map_singleton, updF_at, updF_at, hn]
      congr 1
      refine List.map_congr_left fun j hj => ?_
      have := List.mem_range.1 hj
      rw [updF_ne R nw _ (show j ≠ nw by omega), updF_ne V nw _ (show j ≠ nw by omega)]
    rw [e]
    exact hown
  have hrow : ∀ {A' : Option Addr} {r' : List Msg}, RowA w p q L K A' r' (Value.slice As nw cs).ownBlock → RowA w11 p q L K A' r' (Value.slice A11 (nw + 1) c11).ownBlock := fun {A' r'} hr' => by
    by_cases e : r' = []
    · subst e; exact RowA.none_
    · obtain ⟨g, hA', ha, hne⟩ := hr'.2 e
      refine ⟨MRow.heap hr'.1 hg.size fun g' hg' => by rw [hA'] at hg'; cases hg'; exact hg.block g ha.1 (fun e => hne e.symm), fun _ => ⟨g, hA', ⟨Nat.lt_of_lt_of_le ha.1 hg.size, ha.2⟩, fun e => ?_⟩⟩
      rcases hob with e1 | e1
      · exact hne (e1.symm.trans e)
      · have := e1.symm.trans e
        injection this with this
        have := ha.1
        omega
  refine ⟨A11, c11, w11, hrun, ⟨hown', fun g hg' => ?_, fun j hj => ?_⟩, hbel⟩
  · refine ⟨(own_block hown' hg').2.1, fun hm => ?_⟩
    rcases hob with e1 | e1
    · exact (h.gaw g (e1.symm.trans hg')).2 hm
    · have e2 := e1.symm.trans hg'
      injection e2 with e2
      subst e2
      have := hfl _ hm
      omega
  · by_cases e : j = nw
    · subst e
      rw [updF_at, updF_at]
      exact hrow hr
    · rw [updF_ne R nw _ e, updF_ne V nw _ e]
      exact hrow (h.row j (by omega))
end Po
end Go.Proofs.Ytonmojinijpneaa
