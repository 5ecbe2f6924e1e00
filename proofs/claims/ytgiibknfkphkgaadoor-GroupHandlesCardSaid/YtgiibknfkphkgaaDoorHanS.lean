/- Both tables, by what they hold alone: each call's answer and the table behind it. -/
import Derived.Test.YtgiibknfkphkgaaDoorRows
import Derived.Test.YtgiibknfkphkgaaDoorHanN
namespace Go.Proofs.YtgiibknfkphkgaaDoor
open Go Go.RowKit
set_option linter.unusedVariables false
set_option linter.unusedSimpArgs false
/-- From C on the blocks that were there are as they were. -/
def Up (C : Nat) (w w' : World) : Prop := ∀ j, C ≤ j → j < w.heap.size → w'.heap[j]? = w.heap[j]?
theorem Up.of_below {C : Nat} {w w' : World} (h : Below w.heap.size w w') : Up C w w' := fun j _ hj => h.block j hj
theorem Up.trans {C : Nat} {a b c : World} (h : Up C a b) (k : Up C b c) (hs : a.heap.size ≤ b.heap.size) : Up C a c := fun j hC hj => (k j hC (Nat.lt_of_lt_of_le hj hs)).trans (h j hC hj)
theorem Up.of_only {C : Nat} {S : List Nat} {w w' : World} (h : Only S w w') (hS : ∀ j ∈ S, j < C) : Up C w w' := fun j hC hj => h.2 j hj fun hm => by have := hS j hm; omega
namespace Grp
abbrev S3 := ByteArray × List Int × Bool
def sk (h : He) : S3 := (h.key, h.l, h.gone)
theorem TabA.more {w : World} {T B B' : Nat} {hs : List He} (h : TabA w T B hs) (hB : B' ≤ B) : TabA w T B' hs := by
  obtain ⟨v, h1, h2⟩ := h.tab
  exact ⟨h.pos, h.le, ⟨v, h1, own_more h2 hB⟩, h.rows⟩
theorem TabA.up {w w' : World} {T B : Nat} {hs : List He} {tys : List TypeId} (h : TabA w T B hs) (hBT : B ≤ T) (ho : Up B w w') (k : KeepsBut tys w w') (h4 : ¬ 3 ∈ tys) : TabA w' T B hs := by
  refine ⟨h.pos, h.le, ?_, fun i hi => ⟨IRow.keeps (h.rows i hi).1 k h4, (h.rows i hi).2⟩⟩
  obtain ⟨v, b, o⟩ := h.tab
  refine ⟨v, (ho T hBT b.lt).trans b, o.1, o.2.imp id ?_⟩
  rintro ⟨g, cap, cur, rfl, hge, hh, r⟩
  exact ⟨g, cap, cur, rfl, hge, (ho g hge (Array.getElem?_eq_some_iff.1 hh).1).trans hh, r⟩
def PA (w : World) (T B : Nat) (ss : List S3) : Prop := B ≤ T ∧ ∃ hs, TabA w T B hs ∧ hs.map sk = ss
def Lt (w : World) (T C : Nat) : Prop := T < C ∧ ∀ gr n c, w.cell? ⟨T, 0, none⟩ = some (.slice (some ⟨gr, 0, none⟩) n c) → gr < C
section
variable {w w' : World} {T U B C : Nat} {ss : List S3}
theorem PA.lt (h : PA w T B ss) : T < w.heap.size := by
  obtain ⟨_, hs, h, _⟩ := h
  obtain ⟨v, b, _⟩ := h.tab
  exact b.lt
theorem PA.below (h : PA w T B ss) (hb : Below w.heap.size w w') : PA w' T B ss := by
  obtain ⟨h0, hs, h1, h2⟩ := h
  exact ⟨h0, hs, h1.below hb, h2⟩
theorem PA.up {tys : List TypeId} (h : PA w T B ss) (ho : Up B w w') (k : KeepsBut tys w w') (h4 : ¬ 3 ∈ tys) : PA w' T B ss := by
  obtain ⟨h0, hs, ha, h3⟩ := h
  exact ⟨h0, hs, ha.up h0 ho k h4, h3⟩
theorem PA.more {B' : Nat} (h : PA w T B ss) (hB : B' ≤ B) : PA w T B' ss := by
  obtain ⟨h0, hs, h1, h2⟩ := h
  exact ⟨Nat.le_trans hB h0, hs, h1.more hB, h2⟩
theorem PA.len (h : PA w T B ss) : 0 < ss.length ∧ ss.length ≤ 32 := by
  obtain ⟨_, hs, h1, rfl⟩ := h
  rw [List.length_map]
  exact ⟨h1.pos, h1.le⟩
theorem PA.cell (h : PA w T B ss) : ∃ g c, w.cell? ⟨T, 0, none⟩ = some (.slice (some ⟨g, 0, none⟩) ss.length c) := by
  obtain ⟨_, hs, h1, rfl⟩ := h
  obtain ⟨g, c, hb, _⟩ := h1.open_
  exact ⟨g, c, by rw [List.length_map]; exact hb.cell 0⟩
theorem PA.lt_size (h : PA w T B ss) : Lt w T w.heap.size := by
  obtain ⟨_, hs, h1, _⟩ := h
  obtain ⟨g, c, hb, _, hg, _⟩ := h1.open_
  have e := hb.cell 0
  have e : w.cell? ⟨T, 0, none⟩ = some (.slice (some ⟨g, 0, none⟩) hs.length c) := e
  refine ⟨hb.lt, fun gr n c' h2 => ?_⟩
  rw [e] at h2
  simp at h2
  omega
theorem Lt.below (h : Lt w T C) (hT : T < w.heap.size) (hb : Below w.heap.size w w') : Lt w' T C := ⟨h.1, fun gr n c h2 => h.2 gr n c ((hb.cell (p := ⟨T, 0, none⟩) hT).symm.trans h2)⟩
end
def askS (ss : List S3) (h : Int) : Int := if 0 ≤ h ∧ h < ss.length ∧ (ss.getD h.toNat default).2.2 = false then 0 else 110
theorem ask_sk (hs : List He) (h : Int) : askC hs h = askS (hs.map sk) h := by
  unfold askC askS
  rw [List.length_map]
  by_cases h0 : 0 ≤ h ∧ h < hs.length
  · have hi : h.toNat < hs.length := by omega
    have e1 : (hs.map sk).getD h.toNat default = sk (hs.getD h.toNat default) := by simp [hi]
    rw [e1]
    rfl
  · rw [if_neg (fun h1 => h0 ⟨h1.1, h1.2.1⟩), if_neg (fun h1 => h0 ⟨h1.1, h1.2.1⟩)]
theorem ask_cases (hs : List He) (h : Int) : askC hs h = 110 ∨ ∃ (i : Nat) (hi : i < hs.length), h = i ∧ hs[i].gone = false ∧ askC hs h = 0 := by
  by_cases h0 : 0 ≤ h ∧ h < hs.length ∧ (hs.getD h.toNat default).gone = false
  · right
    obtain ⟨i, rfl⟩ := Int.eq_ofNat_of_zero_le h0.1
    have hi : i < hs.length := by have := h0.2.1; omega
    have hg : hs[i].gone = false := by have := h0.2.2; simpa [hi] using this
    exact ⟨i, hi, rfl, hg, ask_yes hi hg⟩
  · left
    unfold askC
    rw [if_neg h0]
def freeS (ss : List S3) (h : Int) : List S3 := if askS ss h = 0 then ss.modify h.toNat fun x => (x.1, x.2.1, true) else ss
theorem free_sk {hs : List He} {i : Nat} (hi : i < hs.length) (hg : hs[i].gone = false) : (hs.set i hs[i].freed).map sk = freeS (hs.map sk) i := by
  unfold freeS
  rw [if_pos (by rw [← ask_sk]; exact ask_yes hi hg)]
  apply List.ext_getElem?
  intro j
  simp only [List.getElem?_map, List.getElem?_modify, List.getElem?_set, Int.toNat_natCast]
  by_cases e : i = j
  · subst e
    simp [hi, He.freed, sk]
  · simp [e]
theorem free_no_sk {hs : List He} {h : Int} (ha : askC hs h = 110) : freeS (hs.map sk) h = hs.map sk := by
  unfold freeS
  rw [← ask_sk, ha, if_neg (by decide)]
theorem FreeA (T B : Nat) (ss : List S3) (h : Int) (w : World) (hp : PA w T B ss) :
    Calls Tryd.prog 23 #[.pointer (some ⟨T, 0, none⟩), .int .i64 h] w fun e w' => e = .returned (.int .i64 (askS ss h)) ∧ PA w' T B (freeS ss h) ∧ Below B w w' ∧ KeepsBut [75] w w' ∧ ∀ C, Lt w T C → Lt w' T C ∧ Up C w w' := by
  obtain ⟨h0, hs, ht, rfl⟩ := hp
  rw [← ask_sk]
  rcases ask_cases hs h with ha | ⟨i, hi, rfl, hg, ha⟩
  · refine (Free_no T B hs h w ht ha).mono ?_
    rintro e w' ⟨rfl, rfl⟩
    rw [ha, free_no_sk ha]
    exact ⟨rfl, ⟨h0, hs, ht, rfl⟩, Below.refl _ _, KeepsBut.of_below (Below.refl _ _), fun C hc => ⟨hc, Up.of_below (Below.refl _ _)⟩⟩
  · refine (Free_yes T B hs i hi w ht hg).mono ?_
    rintro e w' ⟨rfl, h1, h2, h3, gr, cr, h4, h5, h6⟩
    rw [ha]
    refine ⟨rfl, ⟨h0, _, h1, free_sk hi hg⟩, h2, h3, fun C hc => ⟨⟨hc.1, fun gr' n c h7 => ?_⟩, Up.of_only h6 fun j hj => ?_⟩⟩
    · rw [h5] at h7
      simp at h7
      rw [← h7.1]
      exact hc.2 _ _ _ h4
    · rw [List.mem_singleton.1 hj]
      exact hc.2 _ _ _ h4
def addN (ss : List S3) (l : List Int) : Int := if mayL l ∧ ss.length < 32 then ss.length else 0
def addF (ss : List S3) (l : List Int) : Int := if mayL l then (if ss.length < 32 then 0 else 4) else 2
def addS (ss : List S3) (key : ByteArray) (l : List Int) : List S3 := if mayL l ∧ ss.length < 32 then ss ++ [(key, l, false)] else ss
theorem add_no_sk {hs : List He} {key : ByteArray} {l : List Int} (hle : hs.length ≤ 32) (h : ¬ (mayL l ∧ hs.length < 32)) : (¬ mayL l ∨ hs.length = 32) ∧ addN (hs.map sk) l = 0 ∧ addF (hs.map sk) l = addE hs l ∧ addS (hs.map sk) key l = hs.map sk := by
  unfold addN addF addS addE
  rw [List.length_map, if_neg h, if_neg h]
  by_cases hm : mayL l
  · have h2 : ¬ hs.length < 32 := fun h3 => h ⟨hm, h3⟩
    rw [if_pos hm, if_neg h2, if_pos hm]
    exact ⟨.inr (by omega), rfl, rfl, rfl⟩
  · rw [if_neg hm, if_neg hm]
    exact ⟨.inl hm, rfl, rfl, rfl⟩
theorem add_yes_sk {hs : List He} {key : ByteArray} {l : List Int} (h : mayL l ∧ hs.length < 32) : addN (hs.map sk) l = hs.length ∧ addF (hs.map sk) l = 0 ∧ addS (hs.map sk) key l = hs.map sk ++ [(key, l, false)] := by
  unfold addN addF addS
  rw [List.length_map, if_pos h, if_pos h, if_pos h.1, if_pos h.2]
  exact ⟨rfl, rfl, rfl⟩
theorem AddA (T B : Nat) (ss : List S3) (key : ByteArray) (A : Option Addr) (cap : Nat) (l : List Int) (w : World) (hp : PA w T B ss) (h : ∀ w', Below B w w' → NRow w' A l) (hl : l.length ≤ 1000) :
    Calls Tryd.prog 22 #[.pointer (some ⟨T, 0, none⟩), .agg #[.string key, .slice A l.length cap]] w fun e w' => e = .returned (.tuple #[.int .i64 (addN ss l), .int .i64 (addF ss l)]) ∧ PA w' T B (addS ss key l) ∧ Below B w w' ∧ KeepsBut [75, 78] w w' ∧ ∀ C, Lt w T C → Up C w w' := by
  have hTl := hp.lt
  obtain ⟨h0, hs, ht, rfl⟩ := hp
  by_cases hy : mayL l ∧ hs.length < 32
  · obtain ⟨e1, e2, e3⟩ := add_yes_sk (key := key) hy
    rw [e1, e2, e3]
    refine (Add_yes T B hs key A cap l w ht h0 h hy.1 hy.2).mono ?_
    rintro e w' ⟨rfl, ⟨A', h1⟩, h2, h3, gr, cr, h4, h5⟩
    refine ⟨rfl, ⟨h0, _, h1, by simp [sk]⟩, h2, h3, fun C hc => Up.of_only h5 fun j hj => ?_⟩
    rcases List.mem_cons.1 hj with rfl | hj
    · exact hc.2 _ _ _ h4
    · rw [List.mem_singleton.1 hj]
      exact hc.1
  · obtain ⟨e0, e1, e2, e3⟩ := add_no_sk (key := key) ht.le hy
    rw [e1, e2, e3]
    refine (Add_no T B hs key A cap l w ht (h w (Below.refl _ _)) hl e0).mono ?_
    rintro e w' ⟨rfl, hb⟩
    exact ⟨rfl, ⟨h0, hs, ht.below hb, rfl⟩, hb.mono (by omega), KeepsBut.of_below hb, fun C _ => Up.of_below hb⟩
def atK (ss : List S3) (h : Int) : ByteArray := if askS ss h = 0 then (ss.getD h.toNat default).1 else ⟨#[]⟩
def atL (ss : List S3) (h : Int) : List Int := if askS ss h = 0 then (ss.getD h.toNat default).2.1 else []
theorem at_yes_sk {hs : List He} {i : Nat} (hi : i < hs.length) (hg : hs[i].gone = false) : askS (hs.map sk) i = 0 ∧ atK (hs.map sk) i = hs[i].key ∧ atL (hs.map sk) i = hs[i].l := by
  have e : askS (hs.map sk) i = 0 := by rw [← ask_sk]; exact ask_yes hi hg
  unfold atK atL
  rw [if_pos e, if_pos e]
  simp [hi, e, sk]
theorem at_no_sk {hs : List He} {h : Int} (ha : askC hs h = 110) : askS (hs.map sk) h = 110 ∧ atK (hs.map sk) h = ⟨#[]⟩ ∧ atL (hs.map sk) h = [] := by
  have e : askS (hs.map sk) h = 110 := by rw [← ask_sk]; exact ha
  unfold atK atL
  rw [if_neg (by rw [e]; decide), if_neg (by rw [e]; decide)]
  exact ⟨e, rfl, rfl⟩
theorem AtA (T B : Nat) (ss : List S3) (h : Int) (w : World) (hp : PA w T B ss) :
    Calls Tryd.prog 24 #[.pointer (some ⟨T, 0, none⟩), .int .i64 h] w fun e w' => ∃ A c, e = .returned (.tuple #[.agg #[.string (atK ss h), .slice A (atL ss h).length c], .int .i64 (askS ss h)]) ∧ (0 < (atL ss h).length → ∃ g, A = some ⟨g, 0, none⟩ ∧ w.heap.size ≤ g ∧ Blk w' g 3 (ints (atL ss h)).toArray) ∧ Below w.heap.size w w' := by
  obtain ⟨h0, hs, ht, rfl⟩ := hp
  rcases ask_cases hs h with ha | ⟨i, hi, rfl, hg, ha⟩
  · obtain ⟨e1, e2, e3⟩ := at_no_sk ha
    rw [e1, e2, e3]
    refine (At_no T B hs h w ht ha).mono ?_
    rintro e w' ⟨rfl, hb⟩
    exact ⟨none, 0, rfl, fun h => absurd h (Nat.lt_irrefl 0), hb⟩
  · obtain ⟨e1, e2, e3⟩ := at_yes_sk hi hg
    rw [e1, e2, e3]
    refine (At_yes T B hs i hi w ht hg).mono ?_
    rintro e w' ⟨g, rfl, h1, h2, hb⟩
    exact ⟨_, _, rfl, fun _ => ⟨g, rfl, h1, h2⟩, hb⟩
theorem ManyA (T B : Nat) (ss : List S3) (w : World) (hp : PA w T B ss) :
    Calls Tryd.prog 36 #[.pointer (some ⟨T, 0, none⟩)] w fun e w' => e = .returned (.int .i64 ss.length) ∧ w = w' := by
  obtain ⟨g, c, h⟩ := hp.cell
  exact Many_a T _ _ c w h
end Grp
end Go.Proofs.YtgiibknfkphkgaaDoor
