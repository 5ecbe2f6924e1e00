/- The reference's Dup. -/
import Derived.Test.YtgiibknfkphkgaaDoorRows
import Derived.Test.YtgiibknfkphkgaaDoorSpC
import Derived.Test.YtgiibknfkphkgaaDoorOwn
import Derived.Test.YtgiibknfkphkgaaDoorNumD
import Derived.Test.YtgiibknfkphkgaaDoorRelT
import Derived.Test.YtgiibknfkphkgaaDoorSpK
namespace Go.Proofs.YtgiibknfkphkgaaDoor
open Go Go.RowKit Go.Lib Go.Proofs.YtgiibknfkphkgaaDoor.Grp
set_option linter.unusedVariables false
set_option linter.unusedSimpArgs false
namespace Sp
def dupPostB (key : ByteArray) (l : List Int) (k : Int) (w : World) (e : Ending) (w' : World) : Prop := (((¬ mayL l ∨ k < 0) ∧ e = .returned (.tuple #[.agg #[.string ⟨#[]⟩, .slice none 0 0], .int .i64 2])) ∨ ((mayL l ∧ 0 ≤ k) ∧ ∃ A c, e = .returned (.tuple #[.agg #[.string (behindS key k), .slice A l.length c], .int .i64 0]) ∧ NRow w' A l)) ∧ Below w.heap.size w w'
theorem own_nrow' {w : World} {B c n : Nat} {A : Option Addr} {l : List Int} (h : w.ownsRow B 3 1 (.slice A n c) n (ints l)) (hn : l.length = n) : NRow w A l := fun h0 => by
  obtain ⟨g, rfl, _, _, ⟨cs, hb⟩, _, _, hc⟩ := own_cell h (by omega)
  refine ⟨_, rfl, hb.lt, fun i hi => ?_⟩
  rw [add_lit]
  exact hc i _ (Grp.ints_at hi)
theorem digits_i (k : Int) (h0 : 0 ≤ k) (h1 : k ≤ 9223372036854775807) (w : World) : Calls Tryd.prog 28 #[.int .i64 k] w fun e w' => e = .returned (.string (bytes (itoa k))) ∧ Below w.heap.size w w' := by
  obtain ⟨u, rfl⟩ : ∃ u : Nat, k = u := ⟨k.toNat, by omega⟩
  rw [itoa_nonneg]
  exact digits_b u (by omega) w
set_option maxRecDepth 100000 in
set_option maxHeartbeats 4000000 in
theorem DupB_c (key : ByteArray) (A : Option Addr) (cap : Nat) (l : List Int) (k : Int) (w : World) (h : NRow w A l) (hl : l.length ≤ 1000) (hks : key.size ≤ 1000) (hki : k ≤ 9223372036854775807) :
    Calls Tryd.prog 12 #[.agg #[.string key, .slice A l.length cap], .int .i64 k] w (dupPostB key l k w) := by
  have b1 := Blk.new w 24 #[.string key, .slice A l.length cap]
  have hb1 := (Below.refl w.heap.size w).alloc (Nat.le_refl _) (.cells #[.string key, .slice A l.length cap] 24)
  have hs1 : (w.alloc (.cells #[.string key, .slice A l.length cap] 24)).heap.size = w.heap.size + 1 := by simp
  obtain ⟨W1, hW1⟩ : ∃ x, w.alloc (.cells #[.string key, .slice A l.length cap] 24) = x := ⟨_, rfl⟩
  rw [hW1] at b1 hb1 hs1
  have b2 := b1.alloc (.cells #[.string ⟨#[]⟩, .slice none 0 0] 24)
  have r2 := Blk.new W1 24 #[.string ⟨#[]⟩, .slice none 0 0]
  have hb2 := hb1.alloc (by omega) (.cells #[.string ⟨#[]⟩, .slice none 0 0] 24)
  have hs2 : (W1.alloc (.cells #[.string ⟨#[]⟩, .slice none 0 0] 24)).heap.size = w.heap.size + 1 + 1 := by rw [← hs1]; simp
  obtain ⟨W2, hW2⟩ : ∃ x, W1.alloc (.cells #[.string ⟨#[]⟩, .slice none 0 0] 24) = x := ⟨_, rfl⟩
  rw [hW2] at b2 r2 hb2 hs2
  rw [hs1] at r2
  have c0 : W2.cell? ⟨w.heap.size, 0, none⟩ = some (.string key) := b2.cell 0
  have c1 : W2.cell? ⟨w.heap.size, 1, none⟩ = some (.slice A l.length cap) := b2.cell 1
  have MC := hide (May_b key A cap l W2 (h.below hb2) hl)
  have HN2 := hide (h.below hb2)
  have B2 := hide b2
  have R2 := hide r2
  have HB2 := hide hb2
  have HS1 := hide hs1
  have HS2 := hide hs2
  clear b1 b2 r2 hb1 hb2 h hs2
  by_cases hbad : ¬ mayL l ∨ k < 0
  · have BAD := hide hbad
    have hor : decide (mayL l) = false ∨ (decide (mayL l) = true ∧ k < 0) := by
      by_cases hm : mayL l
      · exact .inr ⟨decide_eq_true hm, hbad.resolve_left (fun h => h hm)⟩
      · exact .inl (decide_eq_false hm)
    clear hbad
    rcases hor with hd | ⟨hd, hk0⟩ <;> rw [hd] at MC <;> clear hd
    · go_enter Tryd.func12, Tryd.ntmps12
      go_wp2_with fail
      refine MC.out.mono ?_
      rintro e W3 ⟨rfl, hb3⟩
      have r3 := R2.out.below hb3 (by have := HS2.out; omega)
      have t0 : W3.cell? ⟨w.heap.size + 1, 0, none⟩ = some (.string ⟨#[]⟩) := r3.cell 0
      have t1 : W3.cell? ⟨w.heap.size + 1, 1, none⟩ = some (.slice none 0 0) := r3.cell 1
      have f0 := r3.frozen 0
      have f1 := r3.frozen 1
      have r4 := (r3.set_ 0 (.string ⟨#[]⟩)).set_ 1 (.slice none 0 0)
      have hb4 := ((HB2.out.trans (hb3.mono HB2.out.size)).setCell (p := ⟨w.heap.size + 1, 0, none⟩) (by show w.heap.size ≤ w.heap.size + 1; omega) (.string ⟨#[]⟩)).setCell (p := ⟨w.heap.size + 1, 1, none⟩) (by show w.heap.size ≤ w.heap.size + 1; omega) (.slice none 0 0)
      obtain ⟨W4, hW4⟩ : ∃ x, (W3.setCell ⟨w.heap.size + 1, 0, none⟩ (.string ⟨#[]⟩)).setCell ⟨w.heap.size + 1, 1, none⟩ (.slice none 0 0) = x := ⟨_, rfl⟩
      rw [hW4] at r4 hb4
      have u0 : W4.cell? ⟨w.heap.size + 1, 0, none⟩ = some (.string ⟨#[]⟩) := r4.cell 0
      have u1 : W4.cell? ⟨w.heap.size + 1, 1, none⟩ = some (.slice none 0 0) := r4.cell 1
      have HB4 := hide hb4
      clear r3 r4 hb4 hb3 c0 c1
      go_wp2_with fail
      exact bodyPost_ret (v := .tuple #[.agg #[.string ⟨#[]⟩, .slice none 0 0], .int .i64 2]) (by simp [results, Tryd.results12, go_sem, u0, u1]) rfl ⟨.inl ⟨BAD.out, rfl⟩, HB4.out⟩
    · go_enter Tryd.func12, Tryd.ntmps12
      go_wp2_with fail
      refine MC.out.mono ?_
      rintro e W3 ⟨rfl, hb3⟩
      have r3 := R2.out.below hb3 (by have := HS2.out; omega)
      have t0 : W3.cell? ⟨w.heap.size + 1, 0, none⟩ = some (.string ⟨#[]⟩) := r3.cell 0
      have t1 : W3.cell? ⟨w.heap.size + 1, 1, none⟩ = some (.slice none 0 0) := r3.cell 1
      have f0 := r3.frozen 0
      have f1 := r3.frozen 1
      have r4 := (r3.set_ 0 (.string ⟨#[]⟩)).set_ 1 (.slice none 0 0)
      have hb4 := ((HB2.out.trans (hb3.mono HB2.out.size)).setCell (p := ⟨w.heap.size + 1, 0, none⟩) (by show w.heap.size ≤ w.heap.size + 1; omega) (.string ⟨#[]⟩)).setCell (p := ⟨w.heap.size + 1, 1, none⟩) (by show w.heap.size ≤ w.heap.size + 1; omega) (.slice none 0 0)
      obtain ⟨W4, hW4⟩ : ∃ x, (W3.setCell ⟨w.heap.size + 1, 0, none⟩ (.string ⟨#[]⟩)).setCell ⟨w.heap.size + 1, 1, none⟩ (.slice none 0 0) = x := ⟨_, rfl⟩
      rw [hW4] at r4 hb4
      have u0 : W4.cell? ⟨w.heap.size + 1, 0, none⟩ = some (.string ⟨#[]⟩) := r4.cell 0
      have u1 : W4.cell? ⟨w.heap.size + 1, 1, none⟩ = some (.slice none 0 0) := r4.cell 1
      have HB4 := hide hb4
      clear r3 r4 hb4 hb3 c0 c1
      go_wp2_with fail
      exact bodyPost_ret (v := .tuple #[.agg #[.string ⟨#[]⟩, .slice none 0 0], .int .i64 2]) (by simp [results, Tryd.results12, go_sem, u0, u1]) rfl ⟨.inl ⟨BAD.out, rfl⟩, HB4.out⟩
  have hmay : mayL l := by
    by_cases h : mayL l
    · exact h
    · exact absurd (.inl h) hbad
  have hk0 : 0 ≤ k := by
    by_cases h : k < 0
    · exact absurd (.inr h) hbad
    · omega
  have HG := hide (show mayL l ∧ 0 ≤ k from ⟨hmay, hk0⟩)
  have hd : decide (mayL l) = true := decide_eq_true hmay
  rw [hd] at MC
  have hk1 : ¬ k < 0 := by omega
  have DC := hide (fun (w1 : World) => digits_i k hk0 hki w1)
  clear hd hmay hbad
  go_enter Tryd.func12, Tryd.ntmps12
  go_wp2_with fail
  refine MC.out.mono ?_
  rintro e W3 ⟨rfl, hb3⟩
  have CC := hide (Copy_b key A cap l W3 (HN2.out.below hb3) hl)
  have k3 := B2.out.below hb3 (by have := HS2.out; omega)
  have c0 : W3.cell? ⟨w.heap.size, 0, none⟩ = some (.string key) := k3.cell 0
  have c1 : W3.cell? ⟨w.heap.size, 1, none⟩ = some (.slice A l.length cap) := k3.cell 1
  have R3 := hide (R2.out.below hb3 (by have := HS2.out; omega))
  have HB3 := hide (HB2.out.trans (hb3.mono HB2.out.size))
  have HS3 := hide (show w.heap.size + 1 + 1 ≤ W3.heap.size by have := HS2.out; have := hb3.size; omega)
  have K3 := hide k3
  clear hb3 k3
  go_wp2_with fail
  refine CC.out.mono ?_
  rintro e W4 ⟨v, rfl, hown, hb4⟩
  obtain ⟨A4, c4, rfl⟩ := own_form hown
  have k4 := K3.out.below hb4 (by have := HS3.out; omega)
  have r4 := R3.out.below hb4 (by have := HS3.out; omega)
  have HS4 := hide (show w.heap.size + 1 + 1 ≤ W4.heap.size by have := HS3.out; have := hb4.size; omega)
  obtain ⟨hbk, hbx⟩ := box2 W4 24 (.string ⟨#[]⟩) (.slice none 0 0) (.string key) (.slice A4 l.length c4)
  have bz := Blk.new W4 24 #[.string ⟨#[]⟩, .slice none 0 0]
  obtain ⟨Wa, hWa⟩ : ∃ x, W4.alloc (.cells #[.string ⟨#[]⟩, .slice none 0 0] 24) = x := ⟨_, rfl⟩
  rw [hWa] at hbk hbx bz
  have z0 : Wa.cell? ⟨W4.heap.size, 0, none⟩ = some (.string ⟨#[]⟩) := bz.cell 0
  have z1 : Wa.cell? ⟨W4.heap.size, 1, none⟩ = some (.slice none 0 0) := bz.cell 1
  have f0 := bz.frozen 0
  have f1 := bz.frozen 1
  obtain ⟨W5, hW5⟩ : ∃ x, (Wa.setCell ⟨W4.heap.size, 0, none⟩ (.string key)).setCell ⟨W4.heap.size, 1, none⟩ (.slice A4 l.length c4) = x := ⟨_, rfl⟩
  rw [hW5] at hbk hbx
  have K5 := hide (k4.below hbx k4.lt)
  have R5 := hide (r4.below hbx r4.lt)
  have HX5 := hide hbk
  have HN5 := hide (own_belowR hown hbx)
  have HB5 := hide ((HB3.out.trans (hb4.mono HB3.out.size)).trans (hbx.mono (by have := HS4.out; omega)))
  have sz0 : ¬ 9223372036854775807 < key.size + 1 := by omega
  have sz1 : ¬ 9223372036854775807 < key.size + (bytes [46]).size + (bytes (itoa k)).size := by
    rw [bytes_size, bytes_size]
    have := itoa_length_le k (by omega) hki
    simp only [List.length_cons, List.length_nil]
    omega
  clear hbk hbx bz hb4 hown k4 r4 c0 c1 MC CC
  go_wp2_with fail
  let R : Nat → Value → World → Prop := fun sl u _ => match sl with
    | 17 => u = .pointer (some ⟨w.heap.size, 0, none⟩)
    | 18 => u = .string key
    | 19 => u = .string (key ++ bytes [46])
    | 20 => u = .int .i64 k
    | 21 => u = .string (bytes (itoa k))
    | 22 => u = .string (behindS key k)
    | 23 => u = .pointer (some ⟨W4.heap.size, 0, none⟩)
    | _ => True
  refine wp_region_relT 7 R (by kernel_rfl) (by kernel_rfl) (by kernel_rfl) (by kernel_rfl) (fun t v wx wy h _ => h) ?step ?fin
  case fin =>
    intro ff W6 hb6 hr
    have e22 : ff 22 = .string (behindS key k) := hr 22 (by decide)
    have e23 : ff 23 = .pointer (some ⟨W4.heap.size, 0, none⟩) := hr 23 (by decide)
    have r6 := R5.out.below hb6 R5.out.lt
    have x6 := HX5.out.below hb6 HX5.out.lt
    have HN6 := hide (own_belowR HN5.out hb6)
    have HB6 := hide (HB5.out.trans (hb6.mono HB5.out.size))
    have e0 : W6.cell? ⟨W4.heap.size, 0, none⟩ = some (.string key) := x6.cell 0
    have fx := x6.frozen 0
    have x7 := x6.set_ 0 (.string (behindS key k))
    have r7 := r6.far (p := ⟨W4.heap.size, 0, none⟩) (by show w.heap.size + 1 ≠ W4.heap.size; have := HS4.out; omega) (.string (behindS key k))
    have hb7 := HB6.out.setCell (p := ⟨W4.heap.size, 0, none⟩) (by show w.heap.size ≤ W4.heap.size; have := HS4.out; omega) (.string (behindS key k))
    have kb7 := keeps_set (p := ⟨W4.heap.size, 0, none⟩) x6 (.string (behindS key k))
    have n7 := KeepsBut.own kb7 HN6.out (by decide)
    obtain ⟨W7, hW7⟩ : ∃ x, W6.setCell ⟨W4.heap.size, 0, none⟩ (.string (behindS key k)) = x := ⟨_, rfl⟩
    rw [hW7] at x7 r7 hb7 n7
    have d0 : W7.cell? ⟨W4.heap.size, 0, none⟩ = some (.string (behindS key k)) := x7.cell 0
    have d1 : W7.cell? ⟨W4.heap.size, 1, none⟩ = some (.slice A4 l.length c4) := x7.cell 1
    have t0 : W7.cell? ⟨w.heap.size + 1, 0, none⟩ = some (.string ⟨#[]⟩) := r7.cell 0
    have t1 : W7.cell? ⟨w.heap.size + 1, 1, none⟩ = some (.slice none 0 0) := r7.cell 1
    have v0 := r7.frozen 0
    have v1 := r7.frozen 1
    have r8 := (r7.set_ 0 (.string (behindS key k))).set_ 1 (.slice A4 l.length c4)
    have kb8 := (keeps_set (p := ⟨w.heap.size + 1, 0, none⟩) r7 (.string (behindS key k))).trans (keeps_set (p := ⟨w.heap.size + 1, 1, none⟩) (r7.set_ 0 (.string (behindS key k))) (.slice A4 l.length c4))
    have n8 := KeepsBut.own kb8 n7 (by decide)
    have hb8 := (hb7.setCell (p := ⟨w.heap.size + 1, 0, none⟩) (by show w.heap.size ≤ w.heap.size + 1; omega) (.string (behindS key k))).setCell (p := ⟨w.heap.size + 1, 1, none⟩) (by show w.heap.size ≤ w.heap.size + 1; omega) (.slice A4 l.length c4)
    obtain ⟨W8, hW8⟩ : ∃ x, (W7.setCell ⟨w.heap.size + 1, 0, none⟩ (.string (behindS key k))).setCell ⟨w.heap.size + 1, 1, none⟩ (.slice A4 l.length c4) = x := ⟨_, rfl⟩
    rw [hW8] at r8 hb8 n8
    have u0 : W8.cell? ⟨w.heap.size + 1, 0, none⟩ = some (.string (behindS key k)) := r8.cell 0
    have u1 : W8.cell? ⟨w.heap.size + 1, 1, none⟩ = some (.slice A4 l.length c4) := r8.cell 1
    have N8 := hide (own_nrow' n8 rfl)
    have HB8 := hide hb8
    clear hr hb6 r6 x6 x7 r7 hb7 kb7 n7 r8 kb8 n8 hb8 z0 z1 f0 f1
    simp only [putAll, slotsOf, List.take, List.drop, List.filterMap_cons, List.filterMap_nil, List.foldl_cons, List.foldl_nil, Act.put, e22, e23]
    simp only [List.setIfInBounds_toArray, List.set_cons_succ, List.set_cons_zero]
    go_wp2_with fail
    exact bodyPost_ret (v := .tuple #[.agg #[.string (behindS key k), .slice A4 l.length c4], .int .i64 0]) (by simp [results, Tryd.results12, go_sem, u0, u1]) rfl ⟨.inr ⟨HG.out, A4, c4, rfl, N8.out⟩, HB8.out⟩
  case step =>
    intro o ho
    simp only [List.take, List.mem_cons, List.not_mem_nil, or_false] at ho
    rcases ho with rfl | rfl | rfl | rfl | rfl | rfl | rfl
    · intro a w1 hb hs hr
      have e2 : a.tmps.getD 2 undef = .pointer (some ⟨w.heap.size, 0, none⟩) := hs 2 (by decide)
      rw [Array.getD_eq_getD_getElem?] at e2
      unfold Oper.wp
      simp only [execOp, Act.eval, Array.getD_eq_getD_getElem?, e2]
      go_simp
      exact ⟨_, rfl, rfl, Below.refl _ _⟩
    · intro a w1 hb hs hr
      have e17 : a.tmps.getD 17 undef = .pointer (some ⟨w.heap.size, 0, none⟩) := hr 17 (by decide) (by apply Array.mem_toList_iff.1; repeat (first | exact List.Mem.head _ | apply List.Mem.tail))
      have cc0 : w1.cell? ⟨w.heap.size, 0, none⟩ = some (.string key) := (K5.out.below hb K5.out.lt).cell 0
      rw [Array.getD_eq_getD_getElem?] at e17
      unfold Oper.wp
      simp only [execOp, Act.eval, Array.getD_eq_getD_getElem?, e17]
      go_simp
      exact ⟨_, rfl, rfl, Below.refl _ _⟩
    · intro a w1 hb hs hr
      have e18 : a.tmps.getD 18 undef = .string key := hr 18 (by decide) (by apply Array.mem_toList_iff.1; repeat (first | exact List.Mem.head _ | apply List.Mem.tail))
      rw [Array.getD_eq_getD_getElem?] at e18
      unfold Oper.wp
      simp only [execOp, Act.eval, Array.getD_eq_getD_getElem?, e18]
      go_simp
      exact ⟨_, rfl, rfl, Below.refl _ _⟩
    · intro a w1 hb hs hr
      have e1 : a.tmps.getD 1 undef = .int .i64 k := hs 1 (by decide)
      rw [Array.getD_eq_getD_getElem?] at e1
      unfold Oper.wp
      simp only [execOp, Act.eval, Array.getD_eq_getD_getElem?, e1]
      go_simp
      exact ⟨_, rfl, rfl, Below.refl _ _⟩
    · intro a w1 hb hs hr
      have e20 : a.tmps.getD 20 undef = .int .i64 k := hr 20 (by decide) (by apply Array.mem_toList_iff.1; repeat (first | exact List.Mem.head _ | apply List.Mem.tail))
      rw [Array.getD_eq_getD_getElem?] at e20
      unfold Oper.wp
      simp only [execOp, Act.eval, Array.getD_eq_getD_getElem?, e20]
      go_simp
      refine (DC.out w1).mono ?_
      rintro e w9 ⟨rfl, hb9⟩
      exact ⟨_, rfl, rfl, hb9⟩
    · intro a w1 hb hs hr
      have e19 : a.tmps.getD 19 undef = .string (key ++ bytes [46]) := hr 19 (by decide) (by apply Array.mem_toList_iff.1; repeat (first | exact List.Mem.head _ | apply List.Mem.tail))
      have e21 : a.tmps.getD 21 undef = .string (bytes (itoa k)) := hr 21 (by decide) (by apply Array.mem_toList_iff.1; repeat (first | exact List.Mem.head _ | apply List.Mem.tail))
      rw [Array.getD_eq_getD_getElem?] at e19
      rw [Array.getD_eq_getD_getElem?] at e21
      unfold Oper.wp
      simp only [execOp, Act.eval, Array.getD_eq_getD_getElem?, e19, e21]
      go_simp
      exact ⟨_, rfl, rfl, Below.refl _ _⟩
    · intro a w1 hb hs hr
      have e6 : a.tmps.getD 6 undef = .pointer (some ⟨W4.heap.size, 0, none⟩) := hs 6 (by decide)
      rw [Array.getD_eq_getD_getElem?] at e6
      unfold Oper.wp
      simp only [execOp, Act.eval, Array.getD_eq_getD_getElem?, e6]
      go_simp
      exact ⟨_, rfl, rfl, Below.refl _ _⟩
end Sp
end Go.Proofs.YtgiibknfkphkgaaDoor
