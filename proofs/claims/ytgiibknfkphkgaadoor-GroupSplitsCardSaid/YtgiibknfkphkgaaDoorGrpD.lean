/- A group in memory of its own: the reference's Copy. -/
import Derived.Test.YtgiibknfkphkgaaDoorRows
import Derived.Test.YtgiibknfkphkgaaDoorGrpC
import Derived.Test.YtgiibknfkphkgaaDoorRelT
import Derived.Test.YtgiibknfkphkgaaDoorAppE
import Derived.Lib.AppendZeros
namespace Go.Proofs.YtgiibknfkphkgaaDoor
open Go.RowKit
set_option linter.unusedVariables false
set_option linter.unusedSimpArgs false
theorem own_form {w : World} {B size n : Nat} {e : TypeId} {v : Value} {xs : List Value} (h : w.ownsRow B e size v n xs) : ∃ a c, v = .slice a n c := by
  rcases h.2 with ⟨rfl, h0⟩ | ⟨g, cap, cur, rfl, _⟩
  · exact ⟨none, 0, by rw [h0]⟩
  · exact ⟨_, _, rfl⟩
theorem own_belowR {w w' : World} {B size n : Nat} {e : TypeId} {v : Value} {xs : List Value} (h : w.ownsRow B e size v n xs) (hb : Below w.heap.size w w') : w'.ownsRow B e size v n xs := by
  refine ⟨h.1, h.2.imp id ?_⟩
  rintro ⟨g, cap, cur, rfl, hge, hh, r⟩
  exact ⟨g, cap, cur, rfl, hge, (hb.block g (Array.getElem?_eq_some_iff.1 hh).1).trans hh, r⟩
theorem own_setCell {w : World} {B size n : Nat} {e : TypeId} {v : Value} {xs : List Value} (h : w.ownsRow B e size v n xs) {p : Addr} (hp : v.ownBlock ≠ some p.block) (u : Value) : (w.setCell p u).ownsRow B e size v n xs := by
  refine ⟨h.1, h.2.imp id ?_⟩
  rintro ⟨g, cap, cur, rfl, hge, hh, r⟩
  have hne : g ≠ p.block := fun e => hp (by rw [← e]; rfl)
  exact ⟨g, cap, cur, rfl, hge, (Below.heap_setCell w p u g hne).trans hh, r⟩
namespace Grp
theorem NRow.reads {w : World} {A : Option Addr} {l : List Int} (h : NRow w A l) : Reads w w.heap.size 1 A l.length (ints l) := by
  refine ⟨by rw [ints_len]; omega, fun h0 => ?_⟩
  obtain ⟨a, rfl, ha, hc⟩ := h h0
  refine ⟨a, rfl, ha, fun j u hu => ?_⟩
  have hj : j < l.length := by have := (List.getElem?_eq_some_iff.1 hu).1; rwa [ints_len] at this
  rw [ints_at hj] at hu
  rw [hc j hj]
  exact hu
set_option maxRecDepth 100000 in
set_option maxHeartbeats 4000000 in
theorem Copy_b (key : ByteArray) (A : Option Addr) (cap : Nat) (l : List Int) (w : World) (h : NRow w A l) (hl : l.length ≤ 1000) :
    Calls Tryd.prog 10 #[.agg #[.string key, .slice A l.length cap]] w fun e w' => ∃ v, e = .returned (.agg #[.string key, v]) ∧ w'.ownsRow w.heap.size 3 1 v l.length (ints l) ∧ Below w.heap.size w w' := by
  obtain ⟨i0, hi0, hz0, hz1, hz2⟩ := info_parts int_infoG
  have HI := hide (And.intro hi0 (And.intro hz0 (And.intro hz1 hz2)))
  have b1 := Blk.new w 24 #[.string key, .slice A l.length cap]
  have hb1 := (Below.refl w.heap.size w).alloc (Nat.le_refl _) (.cells #[.string key, .slice A l.length cap] 24)
  have hs1 : (w.alloc (.cells #[.string key, .slice A l.length cap] 24)).heap.size = w.heap.size + 1 := by simp
  obtain ⟨W1, hW1⟩ : ∃ W1, w.alloc (.cells #[.string key, .slice A l.length cap] 24) = W1 := ⟨_, rfl⟩
  rw [hW1] at b1 hb1 hs1
  have b2 := b1.alloc (.cells #[.string ⟨#[]⟩, .slice none 0 0] 24)
  have r2 := Blk.new W1 24 #[.string ⟨#[]⟩, .slice none 0 0]
  have hb2 := hb1.alloc (by omega) (.cells #[.string ⟨#[]⟩, .slice none 0 0] 24)
  have hs2 : (W1.alloc (.cells #[.string ⟨#[]⟩, .slice none 0 0] 24)).heap.size = w.heap.size + 1 + 1 := by rw [← hs1]; simp
  obtain ⟨W2, hW2⟩ : ∃ W2, W1.alloc (.cells #[.string ⟨#[]⟩, .slice none 0 0] 24) = W2 := ⟨_, rfl⟩
  rw [hW2] at b2 r2 hb2 hs2
  rw [hs1] at r2
  have hlt : w.heap.size < W2.heap.size := by omega
  have q0 : W2.cell? ⟨w.heap.size, 0, none⟩ = some (.string key) := b2.cell 0
  have q1 : W2.cell? ⟨w.heap.size, 1, none⟩ = some (.slice A l.length cap) := b2.cell 1
  have HR := hide (h.below hb2)
  have HB := hide hb2
  have R2 := hide r2
  have hs2' := hide hs2
  clear h b1 b2 r2 hb1 hb2 hi0 hz0 hz1 hz2
  go_enter Tryd.func10, Tryd.ntmps10
  go_wp2_with fail
  let R : Nat → Value → World → Prop := fun sl u w1 => match sl with
    | 3 => u = .pointer (some ⟨w.heap.size, 0, none⟩)
    | 4 => u = .string key
    | 5 => ∃ g, u = .slice (some ⟨g, 0, none⟩) 0 0 ∧ w.heap.size ≤ g ∧ Blk w1 g 3 #[]
    | 6 => u = .pointer (some ⟨w.heap.size, 1, none⟩)
    | 7 => u = .slice A l.length cap
    | 8 => w1.ownsRow w.heap.size 3 1 u l.length (ints l)
    | 9 => ∃ v, u = .agg #[.string key, v] ∧ w1.ownsRow w.heap.size 3 1 v l.length (ints l)
    | _ => True
  refine wp_region_relT 7 R (by kernel_rfl) (by kernel_rfl) (by kernel_rfl) (by kernel_rfl) ?mono ?step ?fin
  case mono =>
    intro sl u w1 w2 h hb
    match sl with
    | 5 =>
      obtain ⟨g, h1, h2, h3⟩ := h
      exact ⟨g, h1, h2, h3.below hb h3.lt⟩
    | 8 => exact own_belowR h hb
    | 9 =>
      obtain ⟨v, h1, h2⟩ := h
      exact ⟨v, h1, own_belowR h2 hb⟩
    | 0 | 1 | 2 | 3 | 4 | 6 | 7 | _ + 10 => exact h
  case fin =>
    intro ff w9 hb hr
    obtain ⟨v, e9, hown⟩ := hr 9 (by decide)
    have hown : w9.ownsRow w.heap.size 3 1 v l.length (ints l) := hown
    have r9 := R2.out.below hb R2.out.lt
    have t0 : w9.cell? ⟨w.heap.size + 1, 0, none⟩ = some (.string ⟨#[]⟩) := r9.cell 0
    have t1 : w9.cell? ⟨w.heap.size + 1, 1, none⟩ = some (.slice none 0 0) := r9.cell 1
    have f0 := r9.frozen 0
    have f1 := r9.frozen 1
    have hne := own_blk_ne hown r9 (by decide)
    have HB9 := hide (HB.out.trans (hb.mono HB.out.size))
    have R9 := hide r9
    obtain ⟨a9, c9, rfl⟩ := own_form hown
    have OW := hide hown
    have HNE := hide hne
    clear hr hb r9 hown hne
    simp only [putAll, slotsOf, List.take, List.drop, List.filterMap_cons, List.filterMap_nil, List.foldl_cons, List.foldl_nil, Act.put, e9]
    simp only [List.setIfInBounds_toArray, List.set_cons_succ, List.set_cons_zero]
    go_wp2_with fail
    have K6 : Blk ((w9.setCell ⟨w.heap.size + 1, 0, none⟩ (.string key)).setCell ⟨w.heap.size + 1, 1, none⟩ (.slice a9 l.length c9)) (w.heap.size + 1) 24 #[.string key, .slice a9 l.length c9] := (R9.out.set_ 0 (.string key)).set_ 1 (.slice a9 l.length c9)
    have O6 := own_setCell (own_setCell OW.out (p := ⟨w.heap.size + 1, 0, none⟩) HNE.out (.string key)) (p := ⟨w.heap.size + 1, 1, none⟩) HNE.out (.slice a9 l.length c9)
    have HB6 := (HB9.out.setCell (p := ⟨w.heap.size + 1, 0, none⟩) (by show w.heap.size ≤ w.heap.size + 1; omega) (.string key)).setCell (p := ⟨w.heap.size + 1, 1, none⟩) (by show w.heap.size ≤ w.heap.size + 1; omega) (.slice a9 l.length c9)
    generalize ((w9.setCell ⟨w.heap.size + 1, 0, none⟩ (.string key)).setCell ⟨w.heap.size + 1, 1, none⟩ (.slice a9 l.length c9)) = W6 at *
    have u0 : W6.cell? ⟨w.heap.size + 1, 0, none⟩ = some (.string key) := K6.cell 0
    have u1 : W6.cell? ⟨w.heap.size + 1, 1, none⟩ = some (.slice a9 l.length c9) := K6.cell 1
    exact bodyPost_ret (v := .agg #[.string key, .slice a9 l.length c9]) (by simp [results, Tryd.results10, go_sem, u0, u1]) rfl ⟨_, rfl, O6, HB6⟩
  case step =>
    intro o ho
    simp only [List.take, List.mem_cons, List.not_mem_nil, or_false] at ho
    rcases ho with rfl | rfl | rfl | rfl | rfl | rfl | rfl
    · intro a w1 hb hs hr
      have e1 : a.tmps.getD 1 undef = .pointer (some ⟨w.heap.size, 0, none⟩) := hs 1 (by decide)
      rw [Array.getD_eq_getD_getElem?] at e1
      unfold Oper.wp
      simp only [execOp, Act.eval, Array.getD_eq_getD_getElem?, e1]
      go_simp
      exact ⟨_, rfl, rfl, Below.refl _ _⟩
    · intro a w1 hb hs hr
      have e3 : a.tmps.getD 3 undef = .pointer (some ⟨w.heap.size, 0, none⟩) := hr 3 (by decide) (by apply Array.mem_toList_iff.1; repeat (first | exact List.Mem.head _ | apply List.Mem.tail))
      have cc : w1.cell? ⟨w.heap.size, 0, none⟩ = some (.string key) := (hb.cell (p := ⟨w.heap.size, 0, none⟩) hlt).trans q0
      rw [Array.getD_eq_getD_getElem?] at e3
      unfold Oper.wp
      simp only [execOp, Act.eval, Array.getD_eq_getD_getElem?, e3]
      go_simp
      exact ⟨_, rfl, rfl, Below.refl _ _⟩
    · intro a w1 hb hs hr
      unfold Oper.wp
      simp only [execOp, Act.eval, Array.getD_eq_getD_getElem?]
      go_simp
      exact ⟨_, rfl, ⟨w1.heap.size, rfl, by have := hb.size; omega, Blk.new w1 3 #[]⟩, (Below.refl _ _).alloc (Nat.le_refl _) _⟩
    · intro a w1 hb hs hr
      have e1 : a.tmps.getD 1 undef = .pointer (some ⟨w.heap.size, 0, none⟩) := hs 1 (by decide)
      rw [Array.getD_eq_getD_getElem?] at e1
      unfold Oper.wp
      simp only [execOp, Act.eval, Array.getD_eq_getD_getElem?, e1]
      go_simp
      exact ⟨_, rfl, rfl, Below.refl _ _⟩
    · intro a w1 hb hs hr
      have e6 : a.tmps.getD 6 undef = .pointer (some ⟨w.heap.size, 1, none⟩) := hr 6 (by decide) (by apply Array.mem_toList_iff.1; repeat (first | exact List.Mem.head _ | apply List.Mem.tail))
      have cc : w1.cell? ⟨w.heap.size, 1, none⟩ = some (.slice A l.length cap) := (hb.cell (p := ⟨w.heap.size, 1, none⟩) hlt).trans q1
      rw [Array.getD_eq_getD_getElem?] at e6
      unfold Oper.wp
      simp only [execOp, Act.eval, Array.getD_eq_getD_getElem?, e6]
      go_simp
      exact ⟨_, rfl, rfl, Below.refl _ _⟩
    · intro a w1 hb hs hr
      have e5 : ∃ g, a.tmps.getD 5 undef = .slice (some ⟨g, 0, none⟩) 0 0 ∧ w.heap.size ≤ g ∧ Blk w1 g 3 #[] := hr 5 (by decide) (by apply Array.mem_toList_iff.1; repeat (first | exact List.Mem.head _ | apply List.Mem.tail))
      have e7 : a.tmps.getD 7 undef = .slice A l.length cap := hr 7 (by decide) (by apply Array.mem_toList_iff.1; repeat (first | exact List.Mem.head _ | apply List.Mem.tail))
      obtain ⟨g, e5', hg, hbg⟩ := e5
      obtain ⟨v', w'', hrun, hown, hbw⟩ := run_append_empty (P := Tryd.prog) w1 w.heap.size 22 22 3 i0 (.int .i64 0) 1 8 Tryd.underlying22 HI.out.1 HI.out.2.1 HI.out.2.2.1 HI.out.2.2.2 rfl g hbg hg (by have := hb.size; omega) w1.heap.size A l.length cap (ints l) (HR.out.below hb).reads (ints_one l) (by omega) (by omega)
      exact Lib.wp_append_run w1 (.tmp 5) (.tmp 7) 22 22 rfl _ _ e5' e7 v' w'' hrun ⟨v', rfl, fun t ht => by cases ht; exact hown, hbw⟩
    · intro a w1 hb hs hr
      have e4 : a.tmps.getD 4 undef = .string key := hr 4 (by decide) (by apply Array.mem_toList_iff.1; repeat (first | exact List.Mem.head _ | apply List.Mem.tail))
      have e8 : w1.ownsRow w.heap.size 3 1 (a.tmps.getD 8 undef) l.length (ints l) := hr 8 (by decide) (by apply Array.mem_toList_iff.1; repeat (first | exact List.Mem.head _ | apply List.Mem.tail))
      rw [Array.getD_eq_getD_getElem?] at e4
      generalize e8' : a.tmps.getD 8 undef = v8 at *
      obtain ⟨a8, c8, rfl⟩ := own_form e8
      rw [Array.getD_eq_getD_getElem?] at e8'
      unfold Oper.wp
      simp only [execOp, Act.eval, Array.getD_eq_getD_getElem?, e4, e8']
      go_simp
      exact ⟨_, rfl, ⟨_, rfl, e8⟩, Below.refl _ _⟩
end Grp
end Go.Proofs.YtgiibknfkphkgaaDoor
