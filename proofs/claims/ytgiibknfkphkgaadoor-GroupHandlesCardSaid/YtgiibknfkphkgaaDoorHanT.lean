/- A handle's group, whatever is added and freed: what the statement keeps beside the table. -/
import Derived.Test.YtgiibknfkphkgaaDoorRows
import Derived.Test.YtgiibknfkphkgaaDoorHanS
import Derived.Test.YtgiibknfkphkgaaDoorSpT
import Derived.Lib.AppendZeros
namespace Go.Proofs.YtgiibknfkphkgaaDoor
open Go Go.RowKit
set_option linter.unusedVariables false
set_option linter.unusedSimpArgs false
namespace Grp
def hgC (h : He) : List Value := [.string h.key, .slice h.A h.l.length h.cap]
def hgCs (l : List He) : List Value := l.flatMap hgC
theorem hgCs_cons (t : He) (l : List He) : hgCs (t :: l) = hgC t ++ hgCs l := rfl
theorem hgC_len (t : He) : (hgC t).length = 2 := rfl
theorem hgCs_at : ∀ (l : List He) (i : Nat) (hi : i < l.length) (j : Nat), j < 2 → (hgCs l)[i * 2 + j]? = (hgC l[i])[j]?
  | t :: l, 0, _, j, hj => by
    rw [hgCs_cons, List.getElem?_append_left (by rw [hgC_len]; omega)]
    simp
  | t :: l, i + 1, hi, j, hj => by
    have e : (i + 1) * 2 + j = (hgC t).length + (i * 2 + j) := by rw [hgC_len]; omega
    rw [hgCs_cons, e, List.getElem?_append_right (by omega), Nat.add_sub_cancel_left]
    exact hgCs_at l i (by simpa using hi) j hj
def gnC (hs : List He) : List Value := hs.map fun h => .bool h.gone
theorem gnC_free (hs : List He) (i : Nat) (hi : i < hs.length) : gnC (hs.set i (hs[i]'hi).freed) = (gnC hs).set i (.bool true) := by
  unfold gnC
  rw [List.map_set]
  rfl
theorem hgCs_free : ∀ (hs : List He) (i : Nat) (hi : i < hs.length), hgCs (hs.set i (hs[i]'hi).freed) = hgCs hs
  | t :: l, 0, _ => rfl
  | t :: l, i + 1, hi => by
    have ih := hgCs_free l i (by simpa using hi)
    rw [List.set_cons_succ, hgCs_cons, hgCs_cons]
    simp only [List.getElem_cons_succ]
    rw [ih]
theorem TabA.keep {tys : List TypeId} {w w' : World} {T B : Nat} {hs : List He} (h : TabA w T B hs) (k : KeepsBut tys w w') (h1 : ¬ 78 ∈ tys) (h2 : ¬ 75 ∈ tys) (h4 : ¬ 3 ∈ tys) : TabA w' T B hs := by
  refine ⟨h.pos, h.le, ?_, fun i hi => ⟨(h.rows i hi).1.keep fun g cs hh => k.2 g _ _ _ hh h4, (h.rows i hi).2⟩⟩
  obtain ⟨v, b, o1⟩ := h.tab
  exact ⟨v, (k.2 T _ _ _ b h1).trans b, KeepsBut.own k o1 h2⟩
theorem PA.keep {w w' : World} {T B : Nat} {ss : List S3} {tys : List TypeId} (h : PA w T B ss) (k : KeepsBut tys w w') (h1 : ¬ 78 ∈ tys) (h2 : ¬ 75 ∈ tys) (h4 : ¬ 3 ∈ tys) : PA w' T B ss := by
  obtain ⟨h0, hs, ha, h3⟩ := h
  exact ⟨h0, hs, ha.keep k h1 h2 h4, h3⟩
theorem hgCs_app (a b : List He) : hgCs (a ++ b) = hgCs a ++ hgCs b := by simp [hgCs]
theorem hgCs_len (l : List He) : (hgCs l).length = l.length * 2 := by
  induction l with
  | nil => rfl
  | cons t l ih =>
    rw [hgCs_cons, List.length_append, ih, hgC_len, List.length_cons]
    omega
theorem gnC_app (a b : List He) : gnC (a ++ b) = gnC a ++ gnC b := by simp [gnC]
theorem gnC_at (l : List He) (i : Nat) (hi : i < l.length) : (gnC l)[i]? = some (.bool l[i].gone) := by
  unfold gnC
  rw [List.getElem?_map, List.getElem?_eq_getElem hi]
  rfl
theorem gr_infoH : (Tryd.prog.info? 24).map (fun i => (i.zero, i.size, i.bytes)) = some (some (.agg #[.string ByteArray.empty, .slice none 0 0]), 2, 40) := by kernel_rfl
theorem bo_infoH : (Tryd.prog.info? 4).map (fun i => (i.zero, i.size, i.bytes)) = some (some (.bool false), 1, 1) := by kernel_rfl
/-- A group put behind a row of one's own. -/
theorem push_group (w : World) (B : Nat) (A : Option Addr) (cap n : Nat) (hs : List He) (x : He) (hn : hs.length = n) (h : w.ownsRow B 24 2 (.slice A n cap) n (hgCs hs)) (hB : B ≤ w.heap.size) (hl : n ≤ 1000) :
    ∃ A1 c1 w1, (Builtin.append_ #[33, 33] 33 #[.slice A n cap, .slice (some ⟨w.heap.size, 0, none⟩) 1 1]).run Tryd.prog (w.alloc (.cells #[.string x.key, .slice x.A x.l.length x.cap] 24)) = .ok (.slice A1 (n + 1) c1) w1 ∧
      w1.ownsRow B 24 2 (.slice A1 (n + 1) c1) (n + 1) (hgCs (hs ++ [x])) ∧ Below B w w1 ∧ KeepsBut [24] w w1 := by
  have ba := (Below.refl w.heap.size w).alloc (Nat.le_refl _) (.cells #[.string x.key, .slice x.A x.l.length x.cap] 24)
  have kb := Blk.new w 24 #[.string x.key, .slice x.A x.l.length x.cap]
  have ow := own_belowR h ba
  have hs1 : (w.alloc (.cells #[.string x.key, .slice x.A x.l.length x.cap] 24)).heap.size = w.heap.size + 1 := by simp
  obtain ⟨Wz, hWz⟩ : ∃ x', w.alloc (.cells #[.string x.key, .slice x.A x.l.length x.cap] 24) = x' := ⟨_, rfl⟩
  rw [hWz] at ba kb ow hs1 ⊢
  have hrd : Reads Wz Wz.heap.size 2 (some ⟨w.heap.size, 0, none⟩) 1 [.string x.key, .slice x.A x.l.length x.cap] := ⟨rfl, fun _ => ⟨_, rfl, kb.lt, fun j u hu => by rw [add_lit, kb.cell]; simpa using hu⟩⟩
  obtain ⟨i0, hi0, hz0', hz1, hz2⟩ := info_parts gr_infoH
  obtain ⟨v11, w11, hrun, hown, hk11, hob⟩ := run_append_any (P := Tryd.prog) Wz B 33 33 24 i0 _ 2 40 Tryd.underlying33 hi0 hz0' hz1 hz2 (by rfl) (by omega) _ _ _ ow Wz.heap.size (some ⟨w.heap.size, 0, none⟩) 1 1 _ hrd (by intro u hu; simp only [List.mem_cons, List.not_mem_nil, or_false] at hu; rcases hu with rfl | rfl <;> rfl) (by unfold maxLen; omega) (by omega) (by omega)
  obtain ⟨A11, c11, rfl⟩ := own_form hown
  exact ⟨A11, c11, w11, hrun, by rw [hgCs_app]; exact hown, (ba.mono hB).grown hk11 (by omega) (fun g e => (own_block h e).1), (KeepsBut.of_below ba).trans (grown_keeps ow hk11)⟩
/-- A yes or no put behind a row of one's own. -/
theorem push_bool (w : World) (B : Nat) (A : Option Addr) (cap n : Nat) (hs : List He) (x : He) (hn : hs.length = n) (h : w.ownsRow B 4 1 (.slice A n cap) n (gnC hs)) (hB : B ≤ w.heap.size) (hl : n ≤ 1000) :
    ∃ A1 c1 w1, (Builtin.append_ #[53, 53] 53 #[.slice A n cap, .slice (some ⟨w.heap.size, 0, none⟩) 1 1]).run Tryd.prog (w.alloc (.cells #[.bool x.gone] 4)) = .ok (.slice A1 (n + 1) c1) w1 ∧
      w1.ownsRow B 4 1 (.slice A1 (n + 1) c1) (n + 1) (gnC (hs ++ [x])) ∧ Below B w w1 ∧ KeepsBut [4] w w1 := by
  have ba := (Below.refl w.heap.size w).alloc (Nat.le_refl _) (.cells #[.bool x.gone] 4)
  have kb := Blk.new w 4 #[.bool x.gone]
  have ow := own_belowR h ba
  have hs1 : (w.alloc (.cells #[.bool x.gone] 4)).heap.size = w.heap.size + 1 := by simp
  obtain ⟨Wz, hWz⟩ : ∃ x', w.alloc (.cells #[.bool x.gone] 4) = x' := ⟨_, rfl⟩
  rw [hWz] at ba kb ow hs1 ⊢
  have hrd : Reads Wz Wz.heap.size 1 (some ⟨w.heap.size, 0, none⟩) 1 [.bool x.gone] := ⟨rfl, fun _ => ⟨_, rfl, kb.lt, fun j u hu => by rw [add_lit, kb.cell]; simpa using hu⟩⟩
  obtain ⟨i0, hi0, hz0', hz1, hz2⟩ := info_parts bo_infoH
  obtain ⟨v11, w11, hrun, hown, hk11, hob⟩ := run_append_any (P := Tryd.prog) Wz B 53 53 4 i0 _ 1 1 Tryd.underlying53 hi0 hz0' hz1 hz2 (by rfl) (by omega) _ _ _ ow Wz.heap.size (some ⟨w.heap.size, 0, none⟩) 1 1 _ hrd (by intro u hu; simp only [List.mem_cons, List.not_mem_nil, or_false] at hu; rcases hu with rfl; rfl) (by unfold maxLen; omega) (by omega) (by omega)
  obtain ⟨A11, c11, rfl⟩ := own_form hown
  exact ⟨A11, c11, w11, hrun, by rw [gnC_app]; exact hown, (ba.mono hB).grown hk11 (by omega) (fun g e => (own_block h e).1), (KeepsBut.of_below ba).trans (grown_keeps ow hk11)⟩
/-- The table, and what is kept beside it. -/
structure HSt (w : World) (T B : Nat) (O O2 : Option Addr) (oc oc2 : Nat) (hs : List He) : Prop where
  tab : PA w T B (hs.map sk)
  gro : w.ownsRow B 24 2 (.slice O hs.length oc) hs.length (hgCs hs)
  gon : w.ownsRow B 4 1 (.slice O2 hs.length oc2) hs.length (gnC hs)
theorem HSt.below {w w' : World} {T B : Nat} {O O2 : Option Addr} {oc oc2 : Nat} {hs : List He} (h : HSt w T B O O2 oc oc2 hs) (hb : Below w.heap.size w w') : HSt w' T B O O2 oc oc2 hs := ⟨h.tab.below hb, own_belowR h.gro hb, own_belowR h.gon hb⟩
theorem HSt.lens {w : World} {T B : Nat} {O O2 : Option Addr} {oc oc2 : Nat} {hs : List He} (h : HSt w T B O O2 oc oc2 hs) : 0 < hs.length ∧ hs.length ≤ 32 := by
  have := h.tab.len
  rwa [List.length_map] at this
/-- What of the rows is read at a place. -/
theorem HSt.at_ {w : World} {T B : Nat} {O O2 : Option Addr} {oc oc2 : Nat} {hs : List He} (h : HSt w T B O O2 oc oc2 hs) : ∃ g g2, O = some ⟨g, 0, none⟩ ∧ O2 = some ⟨g2, 0, none⟩ ∧ g < w.heap.size ∧ g2 < w.heap.size ∧ B ≤ g2 ∧ (∃ cs, Blk w g2 4 cs) ∧ (∀ k, w.frozen? ⟨g2, k, none⟩ = false) ∧ ∀ i (hi : i < hs.length), w.cell? ⟨g, i * 2, none⟩ = some (.string hs[i].key) ∧ w.cell? ⟨g, i * 2 + 1, none⟩ = some (.slice hs[i].A hs[i].l.length hs[i].cap) ∧ w.cell? ⟨g2, i, none⟩ = some (.bool hs[i].gone) := by
  have hp := h.lens.1
  obtain ⟨g, rfl, _, _, ⟨cs, hb⟩, _, _, hc⟩ := own_cell h.gro hp
  obtain ⟨g2, rfl, hB2, _, ⟨cs2, hb2⟩, hf2, _, hc2⟩ := own_cell h.gon hp
  refine ⟨g, g2, rfl, rfl, hb.lt, hb2.lt, hB2, ⟨cs2, hb2⟩, hf2, fun i hi => ⟨?_, ?_, ?_⟩⟩
  · have := hgCs_at hs i hi 0 (by omega)
    exact hc _ _ (by rw [Nat.add_zero] at this; exact this)
  · exact hc _ _ (hgCs_at hs i hi 1 (by omega))
  · exact hc2 _ _ (gnC_at hs i hi)
theorem freed_self {h : He} (hg : h.gone = true) : h.freed = h := by
  cases h
  simp only at hg
  subst hg
  rfl
theorem gone_ask {hs : List He} {k : Nat} (hk : k < hs.length) (hg : hs[k].gone = true) : askS (hs.map sk) (k : Int) = 110 := by
  rw [← ask_sk]
  unfold askC
  rw [if_neg]
  rintro ⟨_, _, h⟩
  rw [Int.toNat_natCast, List.getD_eq_getElem?_getD, List.getElem?_eq_getElem hk] at h
  have h : hs[k].gone = false := h
  rw [hg] at h
  cases h
theorem free_eq {hs : List He} {k : Nat} (hk : k < hs.length) : freeS (hs.map sk) (k : Int) = (hs.set k (hs[k]'hk).freed).map sk := by
  cases hg : hs[k].gone with
  | false => exact (free_sk hk hg).symm
  | true =>
    rw [free_no_sk (by rw [ask_sk]; exact gone_ask hk hg), freed_self hg, List.set_getElem_self]
theorem HSt.free {w : World} {T B g2 : Nat} {O : Option Addr} {oc oc2 k : Nat} {hs : List He} (hk : k < hs.length) (hp : PA w T B ((hs.set k (hs[k]'hk).freed).map sk)) (hg : w.ownsRow B 24 2 (.slice O hs.length oc) hs.length (hgCs hs)) (hn : w.ownsRow B 4 1 (.slice (some ⟨g2, 0, none⟩) hs.length oc2) hs.length (gnC hs)) :
    HSt (w.setCell ⟨g2, k, none⟩ (.bool true)) T B O (some ⟨g2, 0, none⟩) oc oc2 (hs.set k (hs[k]'hk).freed) := by
  obtain ⟨cs, hb⟩ := own_type hn
  have kb := keeps_set (p := ⟨g2, k, none⟩) hb (.bool true)
  refine ⟨hp.keep kb (by decide) (by decide) (by decide), ?_, ?_⟩
  · rw [List.length_set, hgCs_free]
    exact KeepsBut.own kb hg (by decide)
  · rw [List.length_set, gnC_free]
    exact own_set hn _
end Grp
end Go.Proofs.YtgiibknfkphkgaaDoor
