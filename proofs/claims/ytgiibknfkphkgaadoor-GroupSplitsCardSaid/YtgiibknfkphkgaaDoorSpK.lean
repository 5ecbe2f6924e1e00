/- group.Dup. -/
import Derived.Test.YtgiibknfkphkgaaDoorRows
import Derived.Test.YtgiibknfkphkgaaDoorSpC
import Derived.Test.YtgiibknfkphkgaaDoorOwn
namespace Go.Proofs.YtgiibknfkphkgaaDoor
open Go Go.RowKit Go.Lib Go.Proofs.YtgiibknfkphkgaaDoor.Grp
set_option linter.unusedVariables false
set_option linter.unusedSimpArgs false
namespace Sp
def dupPost (key : ByteArray) (l : List Int) (k : Int) (w : World) (e : Ending) (w' : World) : Prop := (((¬ mayL l ∨ k < 0) ∧ e = .returned (.tuple #[.agg #[.string ⟨#[]⟩, .slice none 0 0], .int .i64 2])) ∨ ((mayL l ∧ 0 ≤ k) ∧ ∃ g, e = .returned (.tuple #[.agg #[.string (behindS key k), .slice (some ⟨g, 0, none⟩) l.length l.length], .int .i64 0]) ∧ w.heap.size ≤ g ∧ Blk w' g 3 (ints l).toArray)) ∧ Below w.heap.size w w'
set_option maxRecDepth 100000 in
set_option maxHeartbeats 4000000 in
theorem Dup_c (key : ByteArray) (A : Option Addr) (cap : Nat) (l : List Int) (k : Int) (w : World) (h : NRow w A l) (hl : l.length ≤ 1000) (hp : Pow w) (hks : key.size ≤ 1000) (hki : k ≤ 9223372036854775807) :
    Calls Tryd.prog 11 #[.agg #[.string key, .slice A l.length cap], .int .i64 k] w (dupPost key l k w) := by
  have b1 := Blk.new w 24 #[.string key, .slice A l.length cap]
  have hb1 := (Below.refl w.heap.size w).alloc (Nat.le_refl _) (.cells #[.string key, .slice A l.length cap] 24)
  have hs1 : (w.alloc (.cells #[.string key, .slice A l.length cap] 24)).heap.size = w.heap.size + 1 := by simp
  obtain ⟨W1, hW1⟩ : ∃ x, w.alloc (.cells #[.string key, .slice A l.length cap] 24) = x := ⟨_, rfl⟩
  rw [hW1] at b1 hb1 hs1
  have b2 := b1.alloc (.cells #[.string ⟨#[]⟩, .slice none 0 0] 24)
  have r2 := Blk.new W1 24 #[.string ⟨#[]⟩, .slice none 0 0]
  have hb2 := hb1.alloc (by omega) (.cells #[.string ⟨#[]⟩, .slice none 0 0] 24)
  have hs2 : (W1.alloc (.cells #[.string ⟨#[]⟩, .slice none 0 0] 24)).heap.size = w.heap.size + 1 + 1 := by rw [← hs1]; simp
  obtain ⟨W2, hW2⟩ : ∃ x, W1.alloc (.cells #[.string ⟨#[]⟩, .slice none 0 0] 24) = x := ⟨_, rfl⟩
  rw [hW2] at b2 r2 hb2 hs2
  rw [hs1] at r2
  have c0 : W2.cell? ⟨w.heap.size, 0, none⟩ = some (.string key) := b2.cell 0
  have c1 : W2.cell? ⟨w.heap.size, 1, none⟩ = some (.slice A l.length cap) := b2.cell 1
  have MC := hide (May_a key A cap l W2 (h.below hb2) hl)
  have HN2 := hide (h.below hb2)
  have B2 := hide b2
  have R2 := hide r2
  have HB2 := hide hb2
  have HS1 := hide hs1
  have HS2 := hide hs2
  have HP := hide hp
  clear b1 b2 r2 hb1 hb2 h hs2 hp
  by_cases hbad : ¬ mayL l ∨ k < 0
  · have BAD := hide hbad
    have hor : decide (mayL l) = false ∨ (decide (mayL l) = true ∧ k < 0) := by
      by_cases hm : mayL l
      · exact .inr ⟨decide_eq_true hm, hbad.resolve_left (fun h => h hm)⟩
      · exact .inl (decide_eq_false hm)
    clear hbad
    rcases hor with hd | ⟨hd, hk0⟩ <;> rw [hd] at MC <;> clear hd
    · go_enter Tryd.func11, Tryd.ntmps11
      go_wp2_with fail
      refine MC.out.mono ?_
      rintro e W3 ⟨rfl, hb3⟩
      have r3 := R2.out.below hb3 (by have := HS2.out; omega)
      have t0 : W3.cell? ⟨w.heap.size + 1, 0, none⟩ = some (.string ⟨#[]⟩) := r3.cell 0
      have t1 : W3.cell? ⟨w.heap.size + 1, 1, none⟩ = some (.slice none 0 0) := r3.cell 1
      have f0 := r3.frozen 0
      have f1 := r3.frozen 1
      have r4 := (r3.set_ 0 (.string ⟨#[]⟩)).set_ 1 (.slice none 0 0)
      have hb4 := ((HB2.out.trans (hb3.mono HB2.out.size)).setCell (p := ⟨w.heap.size + 1, 0, none⟩) (by show w.heap.size ≤ w.heap.size + 1; omega) (.string ⟨#[]⟩)).setCell (p := ⟨w.heap.size + 1, 1, none⟩) (by show w.heap.size ≤ w.heap.size + 1; omega) (.slice none 0 0)
      obtain ⟨W4, hW4⟩ : ∃ x, (W3.setCell ⟨w.heap.size + 1, 0, none⟩ (.string ⟨#[]⟩)).setCell ⟨w.heap.size + 1, 1, none⟩ (.slice none 0 0) = x := ⟨_, rfl⟩
      rw [hW4] at r4 hb4
      have u0 : W4.cell? ⟨w.heap.size + 1, 0, none⟩ = some (.string ⟨#[]⟩) := r4.cell 0
      have u1 : W4.cell? ⟨w.heap.size + 1, 1, none⟩ = some (.slice none 0 0) := r4.cell 1
      have HB4 := hide hb4
      clear r3 r4 hb4 hb3 c0 c1
      go_wp2_with fail
      exact bodyPost_ret (v := .tuple #[.agg #[.string ⟨#[]⟩, .slice none 0 0], .int .i64 2]) (by simp [results, Tryd.results11, go_sem, u0, u1]) rfl ⟨.inl ⟨BAD.out, rfl⟩, HB4.out⟩
    · go_enter Tryd.func11, Tryd.ntmps11
      go_wp2_with fail
      refine MC.out.mono ?_
      rintro e W3 ⟨rfl, hb3⟩
      have r3 := R2.out.below hb3 (by have := HS2.out; omega)
      have t0 : W3.cell? ⟨w.heap.size + 1, 0, none⟩ = some (.string ⟨#[]⟩) := r3.cell 0
      have t1 : W3.cell? ⟨w.heap.size + 1, 1, none⟩ = some (.slice none 0 0) := r3.cell 1
      have f0 := r3.frozen 0
      have f1 := r3.frozen 1
      have r4 := (r3.set_ 0 (.string ⟨#[]⟩)).set_ 1 (.slice none 0 0)
      have hb4 := ((HB2.out.trans (hb3.mono HB2.out.size)).setCell (p := ⟨w.heap.size + 1, 0, none⟩) (by show w.heap.size ≤ w.heap.size + 1; omega) (.string ⟨#[]⟩)).setCell (p := ⟨w.heap.size + 1, 1, none⟩) (by show w.heap.size ≤ w.heap.size + 1; omega) (.slice none 0 0)
      obtain ⟨W4, hW4⟩ : ∃ x, (W3.setCell ⟨w.heap.size + 1, 0, none⟩ (.string ⟨#[]⟩)).setCell ⟨w.heap.size + 1, 1, none⟩ (.slice none 0 0) = x := ⟨_, rfl⟩
      rw [hW4] at r4 hb4
      have u0 : W4.cell? ⟨w.heap.size + 1, 0, none⟩ = some (.string ⟨#[]⟩) := r4.cell 0
      have u1 : W4.cell? ⟨w.heap.size + 1, 1, none⟩ = some (.slice none 0 0) := r4.cell 1
      have HB4 := hide hb4
      clear r3 r4 hb4 hb3 c0 c1
      go_wp2_with fail
      exact bodyPost_ret (v := .tuple #[.agg #[.string ⟨#[]⟩, .slice none 0 0], .int .i64 2]) (by simp [results, Tryd.results11, go_sem, u0, u1]) rfl ⟨.inl ⟨BAD.out, rfl⟩, HB4.out⟩
  have hmay : mayL l := by
    by_cases h : mayL l
    · exact h
    · exact absurd (.inl h) hbad
  have hk0 : 0 ≤ k := by
    by_cases h : k < 0
    · exact absurd (.inr h) hbad
    · omega
  have HG := hide (show mayL l ∧ 0 ≤ k from ⟨hmay, hk0⟩)
  have hd : decide (mayL l) = true := decide_eq_true hmay
  rw [hd] at MC
  have h0 : 0 < l.length := hmay.1
  have hk1 : ¬ k < 0 := by omega
  have BC := hide (fun (A' : Option Addr) (c' : Nat) (w1 : World) (hb : Below w.heap.size w w1) => behind_c key A' l.length c' k w1 (by omega) hki (HP.out.below hb (Nat.le_refl _)) (by omega))
  clear hd hmay hbad
  go_enter Tryd.func11, Tryd.ntmps11
  go_wp2_with fail
  refine MC.out.mono ?_
  rintro e W3 ⟨rfl, hb3⟩
  have OC := hide (own_a key A cap l W3 (HN2.out.below hb3) h0 hl)
  have k3 := B2.out.below hb3 (by have := HS2.out; omega)
  have c0 : W3.cell? ⟨w.heap.size, 0, none⟩ = some (.string key) := k3.cell 0
  have c1 : W3.cell? ⟨w.heap.size, 1, none⟩ = some (.slice A l.length cap) := k3.cell 1
  have R3 := hide (R2.out.below hb3 (by have := HS2.out; omega))
  have HB3 := hide (HB2.out.trans (hb3.mono HB2.out.size))
  have HS3 := hide (show w.heap.size + 1 + 1 ≤ W3.heap.size by have := HS2.out; have := hb3.size; omega)
  have K3 := hide k3
  clear hb3 k3
  go_wp2_with fail
  refine OC.out.mono ?_
  rintro e W4 ⟨g, rfl, hg, hgb, hb4⟩
  have k4 := K3.out.below hb4 (by have := HS3.out; omega)
  have c0 : W4.cell? ⟨w.heap.size, 0, none⟩ = some (.string key) := k4.cell 0
  have c1 : W4.cell? ⟨w.heap.size, 1, none⟩ = some (.slice A l.length cap) := k4.cell 1
  have f0 := k4.frozen 0
  have f1 := k4.frozen 1
  have hgw : w.heap.size + 1 + 1 ≤ g := by have := HS3.out; omega
  have k5 := (k4.set_ 0 (.string key)).set_ 1 (.slice (some ⟨g, 0, none⟩) l.length l.length)
  have r4 := R3.out.below hb4 (by have := HS3.out; omega)
  have r5 := (r4.far (p := ⟨w.heap.size, 0, none⟩) (by show w.heap.size + 1 ≠ w.heap.size; omega) (.string key)).far (p := ⟨w.heap.size, 1, none⟩) (by show w.heap.size + 1 ≠ w.heap.size; omega) (.slice (some ⟨g, 0, none⟩) l.length l.length)
  have g5 := (hgb.far (p := ⟨w.heap.size, 0, none⟩) (by show g ≠ w.heap.size; omega) (.string key)).far (p := ⟨w.heap.size, 1, none⟩) (by show g ≠ w.heap.size; omega) (.slice (some ⟨g, 0, none⟩) l.length l.length)
  have hb5 := ((HB3.out.trans (hb4.mono HB3.out.size)).setCell (p := ⟨w.heap.size, 0, none⟩) (Nat.le_refl _) (.string key)).setCell (p := ⟨w.heap.size, 1, none⟩) (Nat.le_refl _) (.slice (some ⟨g, 0, none⟩) l.length l.length)
  obtain ⟨W5, hW5⟩ : ∃ x, (W4.setCell ⟨w.heap.size, 0, none⟩ (.string key)).setCell ⟨w.heap.size, 1, none⟩ (.slice (some ⟨g, 0, none⟩) l.length l.length) = x := ⟨_, rfl⟩
  rw [hW5] at k5 r5 g5 hb5
  have K5 : Hid (Blk W5 w.heap.size 24 #[.string key, .slice (some ⟨g, 0, none⟩) l.length l.length]) := hide (by simpa using k5)
  have d0 : W5.cell? ⟨w.heap.size, 0, none⟩ = some (.string key) := K5.out.cell 0
  have d1 : W5.cell? ⟨w.heap.size, 1, none⟩ = some (.slice (some ⟨g, 0, none⟩) l.length l.length) := K5.out.cell 1
  have R5 := hide r5
  have G5 := hide g5
  have HB5 := hide hb5
  clear k4 k5 r4 r5 g5 hb5 hb4 hgb
  go_wp2_with fail
  refine (BC.out _ _ W5 HB5.out).mono ?_
  rintro e W6 ⟨rfl, hb6⟩
  have k6 := K5.out.below hb6 K5.out.lt
  have r6 := R5.out.below hb6 R5.out.lt
  have g6 := G5.out.below hb6 G5.out.lt
  have HB6 := hide (HB5.out.trans (hb6.mono HB5.out.size))
  have e0 : W6.cell? ⟨w.heap.size, 0, none⟩ = some (.string key) := k6.cell 0
  have f2 := k6.frozen 0
  have k7 := k6.set_ 0 (.string (behindS key k))
  have r7 := r6.far (p := ⟨w.heap.size, 0, none⟩) (by show w.heap.size + 1 ≠ w.heap.size; omega) (.string (behindS key k))
  have g7 := g6.far (p := ⟨w.heap.size, 0, none⟩) (by show g ≠ w.heap.size; omega) (.string (behindS key k))
  have hb7 := HB6.out.setCell (p := ⟨w.heap.size, 0, none⟩) (Nat.le_refl _) (.string (behindS key k))
  obtain ⟨W7, hW7⟩ : ∃ x, W6.setCell ⟨w.heap.size, 0, none⟩ (.string (behindS key k)) = x := ⟨_, rfl⟩
  rw [hW7] at k7 r7 g7 hb7
  have d0 : W7.cell? ⟨w.heap.size, 0, none⟩ = some (.string (behindS key k)) := k7.cell 0
  have d1 : W7.cell? ⟨w.heap.size, 1, none⟩ = some (.slice (some ⟨g, 0, none⟩) l.length l.length) := k7.cell 1
  have t0 : W7.cell? ⟨w.heap.size + 1, 0, none⟩ = some (.string ⟨#[]⟩) := r7.cell 0
  have t1 : W7.cell? ⟨w.heap.size + 1, 1, none⟩ = some (.slice none 0 0) := r7.cell 1
  have v0 := r7.frozen 0
  have v1 := r7.frozen 1
  have r8 := (r7.set_ 0 (.string (behindS key k))).set_ 1 (.slice (some ⟨g, 0, none⟩) l.length l.length)
  have g8 := (g7.far (p := ⟨w.heap.size + 1, 0, none⟩) (by show g ≠ w.heap.size + 1; omega) (.string (behindS key k))).far (p := ⟨w.heap.size + 1, 1, none⟩) (by show g ≠ w.heap.size + 1; omega) (.slice (some ⟨g, 0, none⟩) l.length l.length)
  have hb8 := (hb7.setCell (p := ⟨w.heap.size + 1, 0, none⟩) (by show w.heap.size ≤ w.heap.size + 1; omega) (.string (behindS key k))).setCell (p := ⟨w.heap.size + 1, 1, none⟩) (by show w.heap.size ≤ w.heap.size + 1; omega) (.slice (some ⟨g, 0, none⟩) l.length l.length)
  obtain ⟨W8, hW8⟩ : ∃ x, (W7.setCell ⟨w.heap.size + 1, 0, none⟩ (.string (behindS key k))).setCell ⟨w.heap.size + 1, 1, none⟩ (.slice (some ⟨g, 0, none⟩) l.length l.length) = x := ⟨_, rfl⟩
  rw [hW8] at r8 g8 hb8
  have u0 : W8.cell? ⟨w.heap.size + 1, 0, none⟩ = some (.string (behindS key k)) := r8.cell 0
  have u1 : W8.cell? ⟨w.heap.size + 1, 1, none⟩ = some (.slice (some ⟨g, 0, none⟩) l.length l.length) := r8.cell 1
  have G8 := hide g8
  have HB8 := hide hb8
  have HGW := hide (show w.heap.size ≤ g by omega)
  clear k6 k7 r6 r7 r8 g6 g7 g8 hb6 hb7 hb8
  go_wp2_with fail
  exact bodyPost_ret (v := .tuple #[.agg #[.string (behindS key k), .slice (some ⟨g, 0, none⟩) l.length l.length], .int .i64 0]) (by simp [results, Tryd.results11, go_sem, u0, u1]) rfl ⟨.inr ⟨HG.out, g, rfl, HGW.out, G8.out⟩, HB8.out⟩
end Sp
end Go.Proofs.YtgiibknfkphkgaaDoor
