/- The heights of a program's instructions: Heights, May. -/
import Derived.Test.YtoiibphbogpojaaDoorRows
import Derived.Test.YtoiibphbogpojaaDoorCodG
namespace Go.Proofs.YtoiibphbogpojaaDoor
open Go Go.RowKit
set_option linter.unusedVariables false
set_option linter.unusedSimpArgs false
namespace Cod
theorem mayNs_csok {cs : List In} {vars : Int} {arrs : List Int} (h : mayNs cs vars arrs = true) : CsOk cs := by
  unfold mayNs at h
  simp only [Bool.and_eq_true, decide_eq_true_eq, List.all_eq_true] at h
  obtain ⟨⟨⟨⟨⟨⟨h1, h2⟩, h3⟩, _⟩, _⟩, _⟩, h7⟩ := h
  refine ⟨h1, h2, fun i hi => ?_, h3⟩
  have hx := h7 _ (List.getElem_mem hi)
  rw [show cs[i] = cs.getD i default by rw [List.getD_eq_getElem?_getD, List.getElem?_eq_getElem hi]; rfl] at hx
  generalize cs.getD i default = x at hx ⊢
  obtain ⟨o, n⟩ := x
  unfold mayN at hx
  simp only [Bool.and_eq_true, decide_eq_true_eq] at hx
  obtain ⟨⟨a1, a2⟩, a3⟩ := hx
  refine ⟨a1, a2, fun e => ?_, fun e => ?_⟩
  · simp only at e
    subst e
    rw [show numK 28 = 6 from rfl] at a3
    have a4 : mayCl n = true := a3
    unfold mayCl at a4
    simp only [Bool.and_eq_true, decide_eq_true_eq] at a4
    exact a4.1.1
  · have a4 : numK o = 5 := by
      simp only at e
      rcases e with e | e | e <;> (subst e; rfl)
    rw [a4] at a3
    exact of_decide_eq_true (show decide (0 ≤ n ∧ n < (cs.length : Int)) = true from a3)
/-- What Heights answers. -/
def HtPost (cs : List In) (vars : Int) (arrs : List Int) (w : World) (e : Ending) (w' : World) : Prop :=
  (∃ r, HtR cs vars arrs r ∧ ((r = none ∧ e = .returned (.tuple #[.slice none 0 0, .int .i64 50])) ∨ (∃ hs g, r = some hs ∧ hs.length = cs.length ∧ (∀ k, k < cs.length → hs.getD k 0 = -1 ∨ (0 ≤ hs.getD k 0 ∧ hs.getD k 0 ≤ 200)) ∧ e = .returned (.tuple #[.slice (some ⟨g, 0, none⟩) cs.length cs.length, .int .i64 0]) ∧ w.heap.size ≤ g ∧ Blk w' g 3 (hI hs).toArray))) ∧ Below w.heap.size w w'
set_option maxRecDepth 100000 in
set_option maxHeartbeats 8000000 in
theorem Heights_c (C : Option Addr) (cc : Nat) (cs : List In) (vars : Int) (A : Option Addr) (ca : Nat) (arrs : List Int) (w : World) (hC : CodeAt w C cs) (hA : IntAt w A arrs) (hlc : cs.length ≤ 100000) (hla : arrs.length ≤ 100000) (H : Ops w) :
    Calls Tryd.prog 22 #[PrV C cs.length cc vars A arrs.length ca] w (HtPost cs vars arrs w) := by
  have hb1 := (Below.refl w.heap.size w).alloc (Nat.le_refl _) (.cells #[.slice C cs.length cc, .int .i64 vars, .slice A arrs.length ca] 27)
  have k1 := Blk.new w 27 #[.slice C cs.length cc, .int .i64 vars, .slice A arrs.length ca]
  have MN := hide (fun (w' : World) (h1 : CodeAt w' C cs) (h2 : IntAt w' A arrs) (h3 : Ops w') => mayNumbers_c C cc cs vars A ca arrs w' h1 h2 hlc hla h3)
  unfold PrV at MN ⊢
  go_enter Tryd.func22, Tryd.ntmps22
  go_upto_region 1 with (fail)
  generalize w.alloc (.cells #[.slice C cs.length cc, .int .i64 vars, .slice A arrs.length ca] 27) = w1 at *
  have HO := hide (H.below hb1 (Nat.le_refl _))
  have HC := hide (hC.below hb1)
  have HA := hide (hA.below hb1)
  have HB := hide hb1
  have p0 : w1.cell? ⟨w.heap.size, 0, none⟩ = some (.slice C cs.length cc) := k1.cell 0
  have p1 : w1.cell? ⟨w.heap.size, 1, none⟩ = some (.int .i64 vars) := k1.cell 1
  have p2 : w1.cell? ⟨w.heap.size, 2, none⟩ = some (.slice A arrs.length ca) := k1.cell 2
  have HK := hide k1
  clear hb1 k1 hC hA H hlc hla
  go_wp2_with fail
  refine (MN.out w1 HC.out HA.out HO.out).mono ?_
  rintro e w2 ⟨rfl, hb2⟩
  have HB2 := hide (HB.out.trans (hb2.mono HB.out.size))
  have bx := HK.out.below hb2 HK.out.lt
  have q0 : w2.cell? ⟨w.heap.size, 0, none⟩ = some (.slice C cs.length cc) := bx.cell 0
  have HC2 := hide (HC.out.below hb2)
  have HO2 := hide (HO.out.below hb2 (Nat.le_refl _))
  clear hb2 bx p0 p1 p2 MN
  cases hm : mayNs cs vars arrs with
  | false =>
    have R : Hid (HtR cs vars arrs none) := hide (.inl ⟨hm, rfl⟩)
    clear hm
    go_wp2_with fail
    exact bodyPost_ret (v := .tuple #[.slice none 0 0, .int .i64 50]) (by simp [results, Tryd.results22, go_sem]) rfl ⟨⟨none, R.out, .inl ⟨rfl, rfl⟩⟩, HB2.out⟩
  | true =>
    have K := hide (mayNs_csok hm)
    have RR : Hid (∀ r, Goes cs (h0 cs.length) [0] r → HtR cs vars arrs r) := hide (fun r h => .inr ⟨hm, h⟩)
    clear hm
    go_wp2_with fail
    refine (goWays_c C cc cs w2 HC2.out K.out HO2.out).mono ?_
    rintro e w3 ⟨⟨r, hr, hh⟩, hb3⟩
    have HB3 := hide (HB2.out.trans (hb3.mono HB2.out.size))
    have R := hide (RR.out r hr)
    rcases hh with ⟨rfl, rfl⟩ | ⟨hs, g, rfl, h1, h2, rfl, h3, h4⟩
    · clear hr hb3
      go_wp2_with fail
      exact bodyPost_ret (v := .tuple #[.slice none 0 0, .int .i64 50]) (by simp [results, Tryd.results22, go_sem]) rfl ⟨⟨none, R.out, .inl ⟨rfl, rfl⟩⟩, HB3.out⟩
    · have HH := hide (And.intro h1 (And.intro h2 (And.intro (Nat.le_trans HB2.out.size h3) h4)))
      clear hr hb3 h1 h2 h3 h4
      go_wp2_with fail
      exact bodyPost_ret (v := .tuple #[.slice (some ⟨g, 0, none⟩) cs.length cs.length, .int .i64 0]) (by simp [results, Tryd.results22, go_sem]) rfl ⟨⟨some hs, R.out, .inr ⟨hs, g, rfl, HH.out.1, HH.out.2.1, rfl, HH.out.2.2.1, HH.out.2.2.2⟩⟩, HB3.out⟩
set_option maxRecDepth 100000 in
set_option maxHeartbeats 8000000 in
theorem May_c (C : Option Addr) (cc : Nat) (cs : List In) (vars : Int) (A : Option Addr) (ca : Nat) (arrs : List Int) (w : World) (hC : CodeAt w C cs) (hA : IntAt w A arrs) (hlc : cs.length ≤ 100000) (hla : arrs.length ≤ 100000) (H : Ops w) :
    Calls Tryd.prog 12 #[PrV C cs.length cc vars A arrs.length ca] w fun e w' => (∃ r, HtR cs vars arrs r ∧ e = .returned (.bool r.isSome)) ∧ Below w.heap.size w w' := by
  have hb1 := (Below.refl w.heap.size w).alloc (Nat.le_refl _) (.cells #[.slice C cs.length cc, .int .i64 vars, .slice A arrs.length ca] 27)
  have k1 := Blk.new w 27 #[.slice C cs.length cc, .int .i64 vars, .slice A arrs.length ca]
  have HT := hide (fun (w' : World) (h1 : CodeAt w' C cs) (h2 : IntAt w' A arrs) (h3 : Ops w') => Heights_c C cc cs vars A ca arrs w' h1 h2 hlc hla h3)
  unfold PrV at HT ⊢
  go_enter Tryd.func12, Tryd.ntmps12
  go_upto_region 1 with (fail)
  generalize w.alloc (.cells #[.slice C cs.length cc, .int .i64 vars, .slice A arrs.length ca] 27) = w1 at *
  have HO := hide (H.below hb1 (Nat.le_refl _))
  have HC := hide (hC.below hb1)
  have HA := hide (hA.below hb1)
  have HB := hide hb1
  have p0 : w1.cell? ⟨w.heap.size, 0, none⟩ = some (.slice C cs.length cc) := k1.cell 0
  have p1 : w1.cell? ⟨w.heap.size, 1, none⟩ = some (.int .i64 vars) := k1.cell 1
  have p2 : w1.cell? ⟨w.heap.size, 2, none⟩ = some (.slice A arrs.length ca) := k1.cell 2
  clear hb1 k1 hC hA H hlc hla
  go_wp2_with fail
  refine (HT.out w1 HC.out HA.out HO.out).mono ?_
  rintro e w2 ⟨⟨r, hr, hh⟩, hb2⟩
  have HB2 := hide (HB.out.trans (hb2.mono HB.out.size))
  have R := hide hr
  clear hb2 hr HT p0 p1 p2
  rcases hh with ⟨rfl, rfl⟩ | ⟨hs, g, rfl, h1, h2, rfl, h3, h4⟩
  · go_wp2_with fail
    go_ret
    exact ⟨⟨none, R.out, rfl⟩, HB2.out⟩
  · clear h1 h2 h3 h4
    go_wp2_with fail
    go_ret
    exact ⟨⟨some hs, R.out, rfl⟩, HB2.out⟩
end Cod
end Go.Proofs.YtoiibphbogpojaaDoor
