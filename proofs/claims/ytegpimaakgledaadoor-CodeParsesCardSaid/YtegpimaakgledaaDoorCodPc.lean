/- A text parsed as a program: Parse. -/
import Derived.Test.YtegpimaakgledaaDoorRows
import Derived.Test.YtegpimaakgledaaDoorCodRe
import Derived.Test.YtegpimaakgledaaDoorCodM
namespace Go.Proofs.YtegpimaakgledaaDoor
open Go Go.RowKit
open Go.Lib (itoa atoiAll parseIntB trimPrefix hasPrefix)
set_option linter.unusedVariables false
set_option linter.unusedSimpArgs false
namespace Cod
/-- A program that may be, its numbers such as the language has. -/
structure Well (cs : List In) (v : Int) (arrs : List Int) : Prop where
  vr : -9223372036854775808 ≤ v ∧ v ≤ 9223372036854775807
  ar : ∀ x ∈ arrs, -9223372036854775808 ≤ x ∧ x ≤ 9223372036854775807
  cd : ∀ x ∈ cs, x.ok
/-- What Parse answers. -/
def PaPost (s : List UInt8) (w : World) (e : Ending) (w' : World) : Prop :=
  ((∃ v arrs cs hs C cc A ca, HtR cs v arrs (some hs) ∧ txP v arrs cs = s ∧ Well cs v arrs ∧ arrs.length ≤ 90000 ∧ cs.length ≤ 4001 ∧ e = .returned (.tuple #[PrV C cs.length cc v A arrs.length ca, .int .i64 0]) ∧ Own w' w.heap.size C cc cs A ca arrs) ∨
   (e = .returned (.tuple #[.agg #[.slice none 0 0, .int .i64 0, .slice none 0 0], .int .i64 50]) ∧ ∀ v arrs cs hs, HtR cs v arrs (some hs) → Well cs v arrs → txP v arrs cs ≠ s)) ∧ Below w.heap.size w w'
theorem HtR.mays {cs : List In} {vars : Int} {arrs hs : List Int} (h : HtR cs vars arrs (some hs)) : mayNs cs vars arrs = true := by
  rcases h with ⟨_, h⟩ | ⟨hm, _⟩
  · cases h
  · exact hm
theorem read_no {s : List UInt8} (h : RdR s none) : ∀ v arrs cs hs, HtR cs v arrs (some hs) → Well cs v arrs → txP v arrs cs ≠ s := by
  intro v arrs cs hs hh hw e
  subst e
  cases h.det (RdR.text hh.mays hw.cd hw.ar)
theorem read_other {s : List UInt8} {v : Int} {arrs : List Int} {cs : List In} (h : RdR s (some (v, arrs, cs))) (hn : (∃ hs, HtR cs v arrs (some hs)) → txP v arrs cs ≠ s) : ∀ v' arrs' cs' hs, HtR cs' v' arrs' (some hs) → Well cs' v' arrs' → txP v' arrs' cs' ≠ s := by
  intro v' arrs' cs' hs hh hw e
  subst e
  have e2 := h.det (RdR.text hh.mays hw.cd hw.ar)
  injection e2 with e2
  injection e2 with e3 e4
  injection e4 with e5 e6
  subst e3 e5 e6
  exact hn ⟨hs, hh⟩ rfl
set_option maxRecDepth 100000 in
set_option maxHeartbeats 8000000 in
theorem Parse_c (s : List UInt8) (w : World) (H : Ops w) (hp : Pow w) (hE : Env w) (hl : s.length ≤ 90000) :
    Calls Tryd.prog 19 #[.string (bytes s)] w (PaPost s w) := by
  have hb1 := (Below.refl w.heap.size w).alloc (Nat.le_refl _) (.cells #[.slice none 0 0, .int .i64 0, .slice none 0 0] 25)
  have k1 := Blk.new w 25 #[.slice none 0 0, .int .i64 0, .slice none 0 0]
  have HO := hide H
  have HE := hide hE
  have HP := hide hp
  go_enter Tryd.func19, Tryd.ntmps19
  go_upto_region 1 with (fail)
  obtain ⟨w1, hw1⟩ : ∃ z, w.alloc (.cells #[.slice none 0 0, .int .i64 0, .slice none 0 0] 25) = z := ⟨_, rfl⟩
  rw [hw1] at hb1 k1 ⊢
  obtain ⟨X, hX⟩ : ∃ X, w.heap.size = X := ⟨_, rfl⟩
  rw [hX] at k1 hb1 ⊢
  have HX := hide hX
  have HB1 := hide (And.intro hb1 (show X ≤ w1.heap.size by have := k1.lt; omega))
  have K1 := hide k1
  have HOB := hide (fun (w' : World) (h : Below X w w') => HO.out.below h (by rw [hX]; exact Nat.le_refl _))
  have HPB := hide (fun (w' : World) (h : Below X w w') => HP.out.below h (by rw [hX]; exact Nat.le_refl _))
  have RD := hide (read_c s w1 (HOB.out w1 hb1) (HE.out.below hb1 (by rw [hX]; exact Nat.le_refl _)) hl)
  have HL := hide hl
  clear hb1 k1 hw1 hX hE H hp HO HE HP hl
  go_wp2_with fail
  refine RD.out.mono ?_
  rintro e w2 ⟨⟨r, hr, hh⟩, hb2⟩
  have HB2 := hide (And.intro (HB1.out.1.trans (hb2.mono HB1.out.2)) (Nat.le_trans HB1.out.2 hb2.size))
  have K2 := hide (K1.out.below hb2 K1.out.lt)
  have HW1 := hide HB1.out.2
  have HK1 := hide K1.out.lt
  have R := hide hr
  clear hb2 HB1 K1 RD hr
  rcases hh with ⟨rfl, rfl⟩ | ⟨v, arrs, cs, C, cc, A, ca, rfl, ⟨hv, ha, hc, hla, hlc⟩, rfl, hown⟩
  · have hb3 := HB2.out.1.alloc HB2.out.2 (.cells #[.slice none 0 0, .int .i64 0, .slice none 0 0] 25)
    have k3 := K2.out.alloc (.cells #[.slice none 0 0, .int .i64 0, .slice none 0 0] 25)
    go_upto_region 2 with (fail)
    obtain ⟨w3, hw3⟩ : ∃ z, w2.alloc (.cells #[.slice none 0 0, .int .i64 0, .slice none 0 0] 25) = z := ⟨_, rfl⟩
    rw [hw3] at hb3 k3 ⊢
    have kz := k3
    have z0 : w3.cell? ⟨X, 0, none⟩ = some (.slice none 0 0) := kz.cell 0
    have z1 : w3.cell? ⟨X, 1, none⟩ = some (.int .i64 0) := kz.cell 1
    have z2 : w3.cell? ⟨X, 2, none⟩ = some (.slice none 0 0) := kz.cell 2
    have f0 := kz.frozen 0
    have f1 := kz.frozen 1
    have f2 := kz.frozen 2
    have k9 := ((kz.set_ 0 (.slice none 0 0)).set_ 1 (.int .i64 0)).set_ 2 (.slice none 0 0)
    have HB9 := hide ((((hb3).setCell (p := ⟨X, 0, none⟩) (Nat.le_refl _) (.slice none 0 0)).setCell (p := ⟨X, 1, none⟩) (Nat.le_refl _) (.int .i64 0)).setCell (p := ⟨X, 2, none⟩) (Nat.le_refl _) (.slice none 0 0))
    obtain ⟨w9, hw9⟩ : ∃ z, ((w3.setCell ⟨X, 0, none⟩ (.slice none 0 0)).setCell ⟨X, 1, none⟩ (.int .i64 0)).setCell ⟨X, 2, none⟩ (.slice none 0 0) = z := ⟨_, rfl⟩
    rw [hw9] at k9 HB9
    have u0 : w9.cell? ⟨X, 0, none⟩ = some (.slice none 0 0) := k9.cell 0
    have u1 : w9.cell? ⟨X, 1, none⟩ = some (.int .i64 0) := k9.cell 1
    have u2 : w9.cell? ⟨X, 2, none⟩ = some (.slice none 0 0) := k9.cell 2
    clear kz k9 hb3 k3 hw3
    go_wp2_with fail
    exact bodyPost_ret (v := .tuple #[.agg #[.slice none 0 0, .int .i64 0, .slice none 0 0], .int .i64 50]) (by simp [results, Tryd.results19, go_sem, u0, u1, u2]) rfl ⟨.inr ⟨rfl, read_no R.out⟩, by rw [HX.out]; exact HB9.out⟩
  have hb3 := HB2.out.1.alloc HB2.out.2 (.cells #[.slice C cs.length cc, .int .i64 v, .slice A arrs.length ca] 25)
  have ha3 := (Below.refl w2.heap.size w2).alloc (Nat.le_refl _) (.cells #[.slice C cs.length cc, .int .i64 v, .slice A arrs.length ca] 25)
  have k3 := K2.out.below ha3 K2.out.lt
  have p3 := Blk.new w2 25 #[.slice C cs.length cc, .int .i64 v, .slice A arrs.length ca]
  have oc3 := own_belowR hown.code ha3
  have oa3 := own_belowR hown.arrs ha3
  have hs3 := Nat.le_trans HB2.out.2 ha3.size
  unfold PrV
  go_upto_region 2 with (fail)
  obtain ⟨w3, hw3⟩ : ∃ z, w2.alloc (.cells #[.slice C cs.length cc, .int .i64 v, .slice A arrs.length ca] 25) = z := ⟨_, rfl⟩
  rw [hw3] at hb3 k3 p3 oc3 oa3 hs3 ⊢
  obtain ⟨Y, hY⟩ : ∃ Y, w2.heap.size = Y := ⟨_, rfl⟩
  rw [hY] at p3 ⊢
  have TX := Text_c C cc cs v A ca arrs w3 (CodeAt.of_own oc3 hc) (IntAt.of_own oa3 ha) (by omega) (by have := HL.out; omega) (HOB.out w3 hb3) (HPB.out w3 hb3) hv hc ha
  unfold PrV at TX
  have TX2 := hide TX
  have HB3 := hide (And.intro hb3 hs3)
  have K3 := hide k3
  have P3 := hide p3
  have OC3 := hide oc3
  have OA3 := hide oa3
  have WL := hide (Well.mk hv ha hc)
  have HLL := hide (And.intro hla hlc)
  have p0 : w3.cell? ⟨Y, 0, none⟩ = some (.slice C cs.length cc) := p3.cell 0
  have p1 : w3.cell? ⟨Y, 1, none⟩ = some (.int .i64 v) := p3.cell 1
  have p2 : w3.cell? ⟨Y, 2, none⟩ = some (.slice A arrs.length ca) := p3.cell 2
  clear hb3 ha3 k3 p3 oc3 oa3 hs3 hw3 hY TX hv ha hc hla hlc hown HB2 K2
  go_wp2_with fail
  refine TX2.out.mono ?_
  rintro e w4 ⟨⟨q, hq, hqq⟩, hb4⟩
  have HB4 := hide (And.intro (HB3.out.1.trans (hb4.mono HB3.out.2)) (Nat.le_trans HB3.out.2 hb4.size))
  have K4 := hide (K3.out.below hb4 K3.out.lt)
  have P4 := hide (P3.out.below hb4 P3.out.lt)
  have OC4 := hide (own_belowR OC3.out hb4)
  have OA4 := hide (own_belowR OA3.out hb4)
  have HQ := hide hq
  clear hb4 HB3 K3 P3 OC3 OA3 p0 p1 p2 TX2 hq
  rcases hqq with ⟨rfl, rfl⟩ | ⟨hsome, rfl⟩
  · have RN := hide (read_other R.out (fun ⟨hs, hh⟩ => by cases hh.det HQ.out))
    have kz := K4.out
    have z0 : w4.cell? ⟨X, 0, none⟩ = some (.slice none 0 0) := kz.cell 0
    have z1 : w4.cell? ⟨X, 1, none⟩ = some (.int .i64 0) := kz.cell 1
    have z2 : w4.cell? ⟨X, 2, none⟩ = some (.slice none 0 0) := kz.cell 2
    have f0 := kz.frozen 0
    have f1 := kz.frozen 1
    have f2 := kz.frozen 2
    have k9 := ((kz.set_ 0 (.slice none 0 0)).set_ 1 (.int .i64 0)).set_ 2 (.slice none 0 0)
    have HB9 := hide ((((HB4.out.1).setCell (p := ⟨X, 0, none⟩) (Nat.le_refl _) (.slice none 0 0)).setCell (p := ⟨X, 1, none⟩) (Nat.le_refl _) (.int .i64 0)).setCell (p := ⟨X, 2, none⟩) (Nat.le_refl _) (.slice none 0 0))
    obtain ⟨w9, hw9⟩ : ∃ z, ((w4.setCell ⟨X, 0, none⟩ (.slice none 0 0)).setCell ⟨X, 1, none⟩ (.int .i64 0)).setCell ⟨X, 2, none⟩ (.slice none 0 0) = z := ⟨_, rfl⟩
    rw [hw9] at k9 HB9
    have u0 : w9.cell? ⟨X, 0, none⟩ = some (.slice none 0 0) := k9.cell 0
    have u1 : w9.cell? ⟨X, 1, none⟩ = some (.int .i64 0) := k9.cell 1
    have u2 : w9.cell? ⟨X, 2, none⟩ = some (.slice none 0 0) := k9.cell 2
    clear kz k9
    go_wp2_with fail
    exact bodyPost_ret (v := .tuple #[.agg #[.slice none 0 0, .int .i64 0, .slice none 0 0], .int .i64 50]) (by simp [results, Tryd.results19, go_sem, u0, u1, u2]) rfl ⟨.inr ⟨rfl, RN.out⟩, by rw [HX.out]; exact HB9.out⟩
  obtain ⟨hs, rfl⟩ : ∃ hs, q = some hs := Option.isSome_iff_exists.1 hsome
  have EQ := bytes_eq (txP v arrs cs) s
  by_cases he : txP v arrs cs = s
  rotate_left
  · rw [decide_eq_false he] at EQ
    have RN := hide (read_other R.out (fun _ => he))
    generalize bytes (txP v arrs cs) = TT at *
    clear he hsome
    have kz := K4.out
    have z0 : w4.cell? ⟨X, 0, none⟩ = some (.slice none 0 0) := kz.cell 0
    have z1 : w4.cell? ⟨X, 1, none⟩ = some (.int .i64 0) := kz.cell 1
    have z2 : w4.cell? ⟨X, 2, none⟩ = some (.slice none 0 0) := kz.cell 2
    have f0 := kz.frozen 0
    have f1 := kz.frozen 1
    have f2 := kz.frozen 2
    have k9 := ((kz.set_ 0 (.slice none 0 0)).set_ 1 (.int .i64 0)).set_ 2 (.slice none 0 0)
    have HB9 := hide ((((HB4.out.1).setCell (p := ⟨X, 0, none⟩) (Nat.le_refl _) (.slice none 0 0)).setCell (p := ⟨X, 1, none⟩) (Nat.le_refl _) (.int .i64 0)).setCell (p := ⟨X, 2, none⟩) (Nat.le_refl _) (.slice none 0 0))
    obtain ⟨w9, hw9⟩ : ∃ z, ((w4.setCell ⟨X, 0, none⟩ (.slice none 0 0)).setCell ⟨X, 1, none⟩ (.int .i64 0)).setCell ⟨X, 2, none⟩ (.slice none 0 0) = z := ⟨_, rfl⟩
    rw [hw9] at k9 HB9
    have u0 : w9.cell? ⟨X, 0, none⟩ = some (.slice none 0 0) := k9.cell 0
    have u1 : w9.cell? ⟨X, 1, none⟩ = some (.int .i64 0) := k9.cell 1
    have u2 : w9.cell? ⟨X, 2, none⟩ = some (.slice none 0 0) := k9.cell 2
    clear kz k9
    go_wp2_with fail
    exact bodyPost_ret (v := .tuple #[.agg #[.slice none 0 0, .int .i64 0, .slice none 0 0], .int .i64 50]) (by simp [results, Tryd.results19, go_sem, u0, u1, u2]) rfl ⟨.inr ⟨rfl, RN.out⟩, by rw [HX.out]; exact HB9.out⟩
  rw [decide_eq_true he] at EQ
  have HTE := hide he
  generalize bytes (txP v arrs cs) = TT at *
  clear he hsome
  have p0 : w4.cell? ⟨Y, 0, none⟩ = some (.slice C cs.length cc) := P4.out.cell 0
  have p1 : w4.cell? ⟨Y, 1, none⟩ = some (.int .i64 v) := P4.out.cell 1
  have p2 : w4.cell? ⟨Y, 2, none⟩ = some (.slice A arrs.length ca) := P4.out.cell 2
  have kz := K4.out
  have z0 : w4.cell? ⟨X, 0, none⟩ = some (.slice none 0 0) := kz.cell 0
  have z1 : w4.cell? ⟨X, 1, none⟩ = some (.int .i64 0) := kz.cell 1
  have z2 : w4.cell? ⟨X, 2, none⟩ = some (.slice none 0 0) := kz.cell 2
  have f0 := kz.frozen 0
  have f1 := kz.frozen 1
  have f2 := kz.frozen 2
  have k9 := ((kz.set_ 0 (.slice C cs.length cc)).set_ 1 (.int .i64 v)).set_ 2 (.slice A arrs.length ca)
  have HB9 := hide (((HB4.out.1.setCell (p := ⟨X, 0, none⟩) (Nat.le_refl _) (.slice C cs.length cc)).setCell (p := ⟨X, 1, none⟩) (Nat.le_refl _) (.int .i64 v)).setCell (p := ⟨X, 2, none⟩) (Nat.le_refl _) (.slice A arrs.length ca))
  have nc := own_blk_ne OC4.out kz (by decide)
  have na := own_blk_ne OA4.out kz (by decide)
  have oc := own_setCell (p := ⟨X, 2, none⟩) (own_setCell (p := ⟨X, 1, none⟩) (own_setCell (p := ⟨X, 0, none⟩) OC4.out nc (.slice C cs.length cc)) nc (.int .i64 v)) nc (.slice A arrs.length ca)
  have oa := own_setCell (p := ⟨X, 2, none⟩) (own_setCell (p := ⟨X, 1, none⟩) (own_setCell (p := ⟨X, 0, none⟩) OA4.out na (.slice C cs.length cc)) na (.int .i64 v)) na (.slice A arrs.length ca)
  obtain ⟨w9, hw9⟩ : ∃ z, ((w4.setCell ⟨X, 0, none⟩ (.slice C cs.length cc)).setCell ⟨X, 1, none⟩ (.int .i64 v)).setCell ⟨X, 2, none⟩ (.slice A arrs.length ca) = z := ⟨_, rfl⟩
  rw [hw9] at k9 HB9 oc oa
  have OWN := hide (show Own w9 X C cc cs A ca arrs from ⟨own_more oc HW1.out, own_more oa HW1.out⟩)
  have u0 : w9.cell? ⟨X, 0, none⟩ = some (.slice C cs.length cc) := k9.cell 0
  have u1 : w9.cell? ⟨X, 1, none⟩ = some (.int .i64 v) := k9.cell 1
  have u2 : w9.cell? ⟨X, 2, none⟩ = some (.slice A arrs.length ca) := k9.cell 2
  clear kz k9 nc na oc oa
  go_wp2_with fail
  exact bodyPost_ret (v := .tuple #[.agg #[.slice C cs.length cc, .int .i64 v, .slice A arrs.length ca], .int .i64 0]) (by simp [results, Tryd.results19, go_sem, u0, u1, u2]) rfl ⟨.inl ⟨v, arrs, cs, hs, C, cc, A, ca, HQ.out, HTE.out, WL.out, by have := HLL.out.1; have := HL.out; omega, HLL.out.2, rfl, by rw [HX.out]; exact OWN.out⟩, by rw [HX.out]; exact HB9.out⟩
end Cod
end Go.Proofs.YtegpimaakgledaaDoor
