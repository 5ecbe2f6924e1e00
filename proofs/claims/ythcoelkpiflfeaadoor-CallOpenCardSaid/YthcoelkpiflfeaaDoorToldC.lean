/- What a result tells: the program's Told. -/
import Derived.Test.YthcoelkpiflfeaaDoorRows
import Derived.Test.YthcoelkpiflfeaaDoorGround
import Derived.Test.YthcoelkpiflfeaaDoorToldV
import Derived.Deep.CutRange
import Derived.Deep.RegionWith
namespace Go.Proofs.YthcoelkpiflfeaaDoor
open Go.RowKit
open Go.Lib (itoa itoa_length_le)
set_option linter.unusedVariables false
set_option linter.unusedSimpArgs false
namespace Told
set_option maxRecDepth 100000 in
set_option maxHeartbeats 16000000 in
theorem told_a (k : Int) (x : Rs) (A : Option Addr) (cap : Nat) (w : World) (hok : x.ok) (hr : NRow w A x.row) (hl : x.row.length ≤ 1000) (he : Env w) :
    Calls Tryd.prog 40 #[.int .u8 k, .agg #[.bool x.fl, .int .i64 x.v, .int .i64 x.p, .int .i64 x.t, .int .i64 x.q, .int .i64 x.i, .int .i64 x.c, .slice A x.row.length cap]] w fun e w' => e = .returned (.string (bytes (tT (cls k) x))) ∧ Below w.heap.size w w' := by
  obtain ⟨ov, op, ot, oq, oi, oc, orow⟩ := hok
  have E1 : bytes (tT 1 x) = (bytes [114, 101, 113, 32] ++ bytes (itoa x.q)) := by first | rfl | (simp only [bytes_app]; rfl)
  have E2 : bytes (tT 2 x) = bytes (gotT x) := by first | rfl | (simp only [bytes_app]; rfl)
  have E3 : bytes (tT 3 x) = ((bytes (gotT x) ++ bytes [32]) ++ bytes (rowT x.row)) := by first | rfl | (simp only [bytes_app]; rfl)
  have E4 : bytes (tT 4 x) = (((((bytes [102, 108, 97, 103, 32] ++ bytes (itoa (fI x.fl))) ++ bytes [32, 105, 110, 100, 101, 120, 32]) ++ bytes (itoa x.i)) ++ bytes [32]) ++ bytes (gotT x)) := by first | rfl | (simp only [bytes_app]; rfl)
  have E5 : bytes (tT 5 x) = (((((bytes [102, 108, 97, 103, 32] ++ bytes (itoa (fI x.fl))) ++ bytes [32, 112, 101, 101, 114, 32]) ++ bytes (itoa x.p)) ++ bytes [32, 116, 97, 103, 32]) ++ bytes (itoa x.t)) := by first | rfl | (simp only [bytes_app]; rfl)
  have E6 : bytes (tT 6 x) = (bytes [118, 97, 108, 117, 101, 32] ++ bytes (itoa x.v)) := by first | rfl | (simp only [bytes_app]; rfl)
  have E7 : bytes (tT 7 x) = bytes (rowT x.row) := by first | rfl | (simp only [bytes_app]; rfl)
  have E8 : bytes (tT 8 x) = (bytes [99, 111, 109, 109, 32] ++ bytes (itoa x.c)) := by first | rfl | (simp only [bytes_app]; rfl)
  have EG : bytes (gotT x) = (((((bytes [118, 97, 108, 117, 101, 32] ++ bytes (itoa x.v)) ++ bytes [32, 112, 101, 101, 114, 32]) ++ bytes (itoa x.p)) ++ bytes [32, 116, 97, 103, 32]) ++ bytes (itoa x.t)) := by first | rfl | (simp only [bytes_app]; rfl)
  have hSF : (bytes (itoa (fI x.fl))).size ≤ 1 := by
    have : (bytes (itoa (fI x.fl))).size = 1 := by cases x.fl <;> simp [fI, itoa0, itoa1, bytes_size]
    omega
  have one : ∀ z : Int, bytes (jnC [z]) = bytes (itoa z) := fun z => by simp [jnC, tlC]
  have hSR : (bytes (rowT x.row)).size ≤ 24000 := by
    have := tlS_len orow
    rw [bytes_size, rowT, List.length_append]
    simp only [List.length_cons, List.length_nil]
    omega
  have lSV : (bytes (itoa x.v)).size ≤ 21 := by rw [bytes_size]; exact fit_len ov
  have lSP : (bytes (itoa x.p)).size ≤ 21 := by rw [bytes_size]; exact fit_len op
  have lST : (bytes (itoa x.t)).size ≤ 21 := by rw [bytes_size]; exact fit_len ot
  have lSQ : (bytes (itoa x.q)).size ≤ 21 := by rw [bytes_size]; exact fit_len oq
  have lSI : (bytes (itoa x.i)).size ≤ 21 := by rw [bytes_size]; exact fit_len oi
  have lSC : (bytes (itoa x.c)).size ≤ 21 := by rw [bytes_size]; exact fit_len oc
  have hGl : (bytes (gotT x)).size ≤ 100 := by
    have h1 := fit_len ov
    have h2 := fit_len op
    have h3 := fit_len ot
    rw [bytes_size]
    simp only [gotT, vT, List.length_append, List.length_cons, List.length_nil]
    omega
  have DI : ∀ z : Int, Fit z → ∀ (g : Nat) (w' : World), g < w'.heap.size → w'.cell? ⟨g, 0, none⟩ = some (.int .i64 z) → Pow w' → Calls Tryd.prog 22 #[.slice (some ⟨g, 0, none⟩) 1 1] w' fun e w'' => e = .returned (.string (bytes (itoa z))) ∧ Below w'.heap.size w' w'' := fun z hz g w' hg h0 hp => by
    have t := rowInt_a (some ⟨g, 0, none⟩) 1 [z] w' (NRow.one hg h0) (by simp) (by intro y hy; rw [List.mem_singleton.1 hy]; exact hz) hp
    rw [one z] at t
    exact t
  have DJ : ∀ z : Int, Fit z → ∀ (g : Nat) (w' : World), g < w'.heap.size → w'.cell? ⟨g, 0, none⟩ = some (.int .i64 z) → Pow w' → Calls Tryd.prog 24 #[.slice (some ⟨g, 0, none⟩) 1 1] w' fun e w'' => e = .returned (.string (bytes (itoa z))) ∧ Below w'.heap.size w' w'' := fun z hz g w' hg h0 hp => by
    have t := row64_a (some ⟨g, 0, none⟩) 1 [z] w' (NRow.one hg h0) (by simp) (by intro y hy; rw [List.mem_singleton.1 hy]; exact hz) hp
    rw [one z] at t
    exact t
  have DV := hide (DJ x.v ov)
  have DP := hide (DI x.p op)
  have DT := hide (DI x.t ot)
  have DQ := hide (DI x.q oq)
  have DN := hide (DI x.i oi)
  have DC := hide (DI x.c oc)
  have DF := hide (fun fz (hf : fI x.fl = fz) => show ∀ (g : Nat) (w' : World), g < w'.heap.size → w'.cell? ⟨g, 0, none⟩ = some (.int .i64 fz) → Pow w' → Calls Tryd.prog 22 #[.slice (some ⟨g, 0, none⟩) 1 1] w' fun e w'' => e = .returned (.string (bytes (itoa (fI x.fl)))) ∧ Below w'.heap.size w' w'' by
    subst hf
    exact DI (fI x.fl) (by unfold Fit fI; split <;> omega))
  have VA := hide (fun (w' : World) (h : NRow w' A x.row) (he' : Env w') => values_a A cap x.row w' h hl orow he')
  generalize hS : bytes (tT (cls k) x) = S
  have HS := hide hS
  obtain ⟨T, hT⟩ : ∃ T : Nat → ByteArray, T = fun n => bytes (tT n x) := ⟨_, rfl⟩
  have HT := hide (fun n => (congrFun hT n).symm)
  have F0 : Hid (T 0 = ⟨#[]⟩) := hide ((HT.out 0).symm.trans rfl)
  have F1 : Hid (T 1 = (bytes [114, 101, 113, 32] ++ bytes (itoa x.q))) := hide ((HT.out 1).symm.trans E1)
  have F2 : Hid (T 2 = bytes (gotT x)) := hide ((HT.out 2).symm.trans E2)
  have F3 : Hid (T 3 = ((bytes (gotT x) ++ bytes [32]) ++ bytes (rowT x.row))) := hide ((HT.out 3).symm.trans E3)
  have F4 : Hid (T 4 = (((((bytes [102, 108, 97, 103, 32] ++ bytes (itoa (fI x.fl))) ++ bytes [32, 105, 110, 100, 101, 120, 32]) ++ bytes (itoa x.i)) ++ bytes [32]) ++ bytes (gotT x))) := hide ((HT.out 4).symm.trans E4)
  have F5 : Hid (T 5 = (((((bytes [102, 108, 97, 103, 32] ++ bytes (itoa (fI x.fl))) ++ bytes [32, 112, 101, 101, 114, 32]) ++ bytes (itoa x.p)) ++ bytes [32, 116, 97, 103, 32]) ++ bytes (itoa x.t))) := hide ((HT.out 5).symm.trans E5)
  have F6 : Hid (T 6 = (bytes [118, 97, 108, 117, 101, 32] ++ bytes (itoa x.v))) := hide ((HT.out 6).symm.trans E6)
  have F7 : Hid (T 7 = bytes (rowT x.row)) := hide ((HT.out 7).symm.trans E7)
  have F8 : Hid (T 8 = (bytes [99, 111, 109, 109, 32] ++ bytes (itoa x.c))) := hide ((HT.out 8).symm.trans E8)
  have HG := hide EG
  have HSS : Hid (T (cls k) = S) := hide ((HT.out (cls k)).symm.trans HS.out)
  clear HS HT hT hS E1 E2 E3 E4 E5 E6 E7 E8 EG ov op ot oq oi oc orow one DI DJ hl
  obtain ⟨fl, v, p, t, q, i, c, row⟩ := x
  simp only at *
  generalize bytes (itoa v) = SV at *
  generalize bytes (itoa p) = SP at *
  generalize bytes (itoa t) = ST at *
  generalize bytes (itoa q) = SQ at *
  generalize bytes (itoa i) = SI at *
  generalize bytes (itoa c) = SC at *
  generalize bytes (itoa (fI fl)) = SF at *
  generalize bytes (rowT row) = SR at *
  generalize bytes (gotT ⟨fl, v, p, t, q, i, c, row⟩) = G at *
  have bk := Blk.new w 71 #[.bool fl, .int .i64 v, .int .i64 p, .int .i64 t, .int .i64 q, .int .i64 i, .int .i64 c, .slice A row.length cap]
  have hb1 := (Below.refl w.heap.size w).alloc (Nat.le_refl _) (.cells #[.bool fl, .int .i64 v, .int .i64 p, .int .i64 t, .int .i64 q, .int .i64 i, .int .i64 c, .slice A row.length cap] 71)
  have hlt : w.heap.size < (w.alloc (.cells #[.bool fl, .int .i64 v, .int .i64 p, .int .i64 t, .int .i64 q, .int .i64 i, .int .i64 c, .slice A row.length cap] 71)).heap.size := by simp
  obtain ⟨W1, hW1⟩ : ∃ W1, w.alloc (.cells #[.bool fl, .int .i64 v, .int .i64 p, .int .i64 t, .int .i64 q, .int .i64 i, .int .i64 c, .slice A row.length cap] 71) = W1 := ⟨_, rfl⟩
  rw [hW1] at bk hb1 hlt
  have BK := hide bk
  have HB := hide hb1
  have HR := hide hr
  have HE := hide (he.below hb1 (Nat.le_refl _))
  have hc := fun j => bk.cell j
  have q0 := hc 0
  have q1 := hc 1
  have q2 := hc 2
  have q3 := hc 3
  simp only [List.getElem?_toArray, List.getElem?_cons_zero, List.getElem?_cons_succ] at q0 q1 q2 q3
  clear bk hb1 hr hc he
  rcases fl with _ | _
  all_goals
    go_enter Tryd.func40, Tryd.ntmps40
    go_upto_region 4 with (fail)
  obtain ⟨fz, hfz⟩ : ∃ fz : Int, (0 : Int) = fz := ⟨_, rfl⟩
  rotate_left
  obtain ⟨fz, hfz⟩ : ∃ fz : Int, (1 : Int) = fz := ⟨_, rfl⟩
  rotate_left
  all_goals
    have DFz := hide (DF.out fz hfz)
    have m0 : ¬ 9223372036854775807 < 6 + SV.size := by omega
    have m58 : ¬ 9223372036854775807 < 6 + SV.size + 6 := by omega
    have m121 : ¬ 9223372036854775807 < 6 + SV.size + 6 + SP.size := by omega
    have m195 : ¬ 9223372036854775807 < 6 + SV.size + 6 + SP.size + 5 := by omega
    have m273 : ¬ 9223372036854775807 < 6 + SV.size + 6 + SP.size + 5 + ST.size := by omega
    let R : Nat → Value → World → Prop := fun sl u w1 => match sl with
      | 6 => u = .string (((((⟨#[118, 97, 108, 117, 101, 32]⟩ ++ SV) ++ ⟨#[32, 112, 101, 101, 114, 32]⟩) ++ SP) ++ ⟨#[32, 116, 97, 103, 32]⟩) ++ ST)
      | 9 => u = .pointer (some ⟨w.heap.size, 1, none⟩)
      | 10 => u = .int .i64 v
      | 11 => ∃ g, u = .slice (some ⟨g, 0, none⟩) 1 1 ∧ g < w1.heap.size ∧ w1.cell? ⟨g, 0, none⟩ = some (.int .i64 v)
      | 12 => u = .string SV
      | 13 => u = .string (⟨#[118, 97, 108, 117, 101, 32]⟩ ++ SV)
      | 14 => u = .string ((⟨#[118, 97, 108, 117, 101, 32]⟩ ++ SV) ++ ⟨#[32, 112, 101, 101, 114, 32]⟩)
      | 15 => u = .pointer (some ⟨w.heap.size, 2, none⟩)
      | 16 => u = .int .i64 p
      | 17 => ∃ g, u = .slice (some ⟨g, 0, none⟩) 1 1 ∧ g < w1.heap.size ∧ w1.cell? ⟨g, 0, none⟩ = some (.int .i64 p)
      | 18 => u = .string SP
      | 19 => u = .string (((⟨#[118, 97, 108, 117, 101, 32]⟩ ++ SV) ++ ⟨#[32, 112, 101, 101, 114, 32]⟩) ++ SP)
      | 20 => u = .string ((((⟨#[118, 97, 108, 117, 101, 32]⟩ ++ SV) ++ ⟨#[32, 112, 101, 101, 114, 32]⟩) ++ SP) ++ ⟨#[32, 116, 97, 103, 32]⟩)
      | 21 => u = .pointer (some ⟨w.heap.size, 3, none⟩)
      | 22 => u = .int .i64 t
      | 23 => ∃ g, u = .slice (some ⟨g, 0, none⟩) 1 1 ∧ g < w1.heap.size ∧ w1.cell? ⟨g, 0, none⟩ = some (.int .i64 t)
      | 24 => u = .string ST
      | 25 => u = .string (((((⟨#[118, 97, 108, 117, 101, 32]⟩ ++ SV) ++ ⟨#[32, 112, 101, 101, 114, 32]⟩) ++ SP) ++ ⟨#[32, 116, 97, 103, 32]⟩) ++ ST)
      | _ => True
    refine wp_region_rel R (by kernel_rfl) (by kernel_rfl) (by kernel_rfl) ?mono ?step ?fin
    case mono =>
      intro sl u w1 w2 h hb
      match sl with
      | 11 | 17 | 23 =>
        obtain ⟨g, h1, h2, g0⟩ := h
        exact ⟨g, h1, Nat.lt_of_lt_of_le h2 hb.size, (hb.cell (p := ⟨g, 0, none⟩) h2).trans g0⟩
      | 0 | 1 | 2 | 3 | 4 | 5 | 6 | 7 | 8 | 9 | 10 | 12 | 13 | 14 | 15 | 16 | 18 | 19 | 20 | 21 | 22 | 24 | 25 | _ + 26 => exact h
    case fin =>
      intro ff w9 hb hr
      have e6 : ff 6 = .string G := (hr 6 (by decide)).trans (congrArg Value.string (show _ = G from HG.out.symm))
      have hs9 := hb.size
      have bk9 := BK.out.below hb hlt
      have hlt9 := bk9.lt
      have HB9 := hide (HB.out.trans (hb.mono HB.out.size))
      have HE9 := hide (HE.out.below hb (Nat.le_refl _))
      have HR9 := hide (HR.out.below HB9.out)
      have hc9 := fun j => bk9.cell j
      have p1 := hc9 1
      have p2 := hc9 2
      have p3 := hc9 3
      have p4 := hc9 4
      have p5 := hc9 5
      have p6 := hc9 6
      have p7 := hc9 7
      simp only [List.getElem?_toArray, List.getElem?_cons_zero, List.getElem?_cons_succ] at p1 p2 p3 p4 p5 p6 p7
      clear hr hb bk9 hc9 q0 q1 q2 q3 BK HB HE HR hW1
      simp only [putAll, slotsOf, List.filterMap_cons, List.filterMap_nil, List.foldl_cons, List.foldl_nil, Act.put, e6]
      simp only [List.setIfInBounds_toArray, List.set_cons_succ, List.set_cons_zero]
      by_cases k4 : k = 4
      · subst k4
        have FE := hide (HSS.out.symm.trans F1.out)
        have m0 : ¬ 9223372036854775807 < 4 + SQ.size := by omega
        go_wp2_with fail
        have hbn := (Below.refl w9.heap.size w9).alloc (Nat.le_refl _) (.cells #[.int .i64 q] 3)
        refine (DQ.out w9.heap.size _ (by simp) ((Blk.new w9 3 #[.int .i64 q]).cell 0) (HE9.out.below hbn (Nat.le_refl _)).pow).mono ?_
        rintro e w5 ⟨rfl, hb5⟩
        have HB5 := hide (HB9.out.trans ((hbn.trans (hb5.mono hbn.size)).mono HB9.out.size))
        clear hb5 hbn
        go_wp2_with fail
        go_ret
        exact ⟨by rw [FE.out]; rfl, HB5.out⟩
      by_cases k5 : k = 5
      · subst k5
        have FE := hide (HSS.out.symm.trans F1.out)
        have m0 : ¬ 9223372036854775807 < 4 + SQ.size := by omega
        go_wp2_with fail
        have hbn := (Below.refl w9.heap.size w9).alloc (Nat.le_refl _) (.cells #[.int .i64 q] 3)
        refine (DQ.out w9.heap.size _ (by simp) ((Blk.new w9 3 #[.int .i64 q]).cell 0) (HE9.out.below hbn (Nat.le_refl _)).pow).mono ?_
        rintro e w5 ⟨rfl, hb5⟩
        have HB5 := hide (HB9.out.trans ((hbn.trans (hb5.mono hbn.size)).mono HB9.out.size))
        clear hb5 hbn
        go_wp2_with fail
        go_ret
        exact ⟨by rw [FE.out]; rfl, HB5.out⟩
      by_cases k7 : k = 7
      · subst k7
        have FE := hide (HSS.out.symm.trans F1.out)
        have m0 : ¬ 9223372036854775807 < 4 + SQ.size := by omega
        go_wp2_with fail
        have hbn := (Below.refl w9.heap.size w9).alloc (Nat.le_refl _) (.cells #[.int .i64 q] 3)
        refine (DQ.out w9.heap.size _ (by simp) ((Blk.new w9 3 #[.int .i64 q]).cell 0) (HE9.out.below hbn (Nat.le_refl _)).pow).mono ?_
        rintro e w5 ⟨rfl, hb5⟩
        have HB5 := hide (HB9.out.trans ((hbn.trans (hb5.mono hbn.size)).mono HB9.out.size))
        clear hb5 hbn
        go_wp2_with fail
        go_ret
        exact ⟨by rw [FE.out]; rfl, HB5.out⟩
      by_cases k6 : k = 6
      · subst k6
        have FE := hide (HSS.out.symm.trans F2.out)
        go_wp2_with fail
        go_ret
        exact ⟨by rw [FE.out]; rfl, HB9.out⟩
      by_cases k8 : k = 8
      · subst k8
        have FE := hide (HSS.out.symm.trans F2.out)
        go_wp2_with fail
        go_ret
        exact ⟨by rw [FE.out]; rfl, HB9.out⟩
      by_cases k9 : k = 9
      · subst k9
        have FE := hide (HSS.out.symm.trans F3.out)
        have m0 : ¬ 9223372036854775807 < G.size + 1 := by omega
        have m57 : ¬ 9223372036854775807 < G.size + 1 + SR.size := by omega
        go_wp2_with fail
        refine (VA.out _ HR9.out HE9.out).mono ?_
        rintro e w5 ⟨rfl, hb5⟩
        have HB5 := hide (HB9.out.trans (hb5.mono HB9.out.size))
        clear hb5
        go_wp2_with fail
        go_ret
        exact ⟨by rw [FE.out]; rfl, HB5.out⟩
      by_cases k10 : k = 10
      · subst k10
        have FE := hide (HSS.out.symm.trans F4.out)
        have m0 : ¬ 9223372036854775807 < 5 + SF.size := by omega
        have m58 : ¬ 9223372036854775807 < 5 + SF.size + 7 := by omega
        have m121 : ¬ 9223372036854775807 < 5 + SF.size + 7 + SI.size := by omega
        have m195 : ¬ 9223372036854775807 < 5 + SF.size + 7 + SI.size + 1 := by omega
        have m273 : ¬ 9223372036854775807 < 5 + SF.size + 7 + SI.size + 1 + G.size := by omega
        go_wp2_with fail
        clear hlt
        have hlt := hlt9
        let R : Nat → Value → World → Prop := fun sl u w1 => match sl with
          | 4 => u = .string (((((⟨#[102, 108, 97, 103, 32]⟩ ++ SF) ++ ⟨#[32, 105, 110, 100, 101, 120, 32]⟩) ++ SI) ++ ⟨#[32]⟩) ++ G)
          | 52 => u = .int .i64 fz
          | 53 => ∃ g, u = .slice (some ⟨g, 0, none⟩) 1 1 ∧ g < w1.heap.size ∧ w1.cell? ⟨g, 0, none⟩ = some (.int .i64 fz)
          | 54 => u = .string SF
          | 55 => u = .string (⟨#[102, 108, 97, 103, 32]⟩ ++ SF)
          | 56 => u = .string ((⟨#[102, 108, 97, 103, 32]⟩ ++ SF) ++ ⟨#[32, 105, 110, 100, 101, 120, 32]⟩)
          | 57 => u = .pointer (some ⟨w.heap.size, 5, none⟩)
          | 58 => u = .int .i64 i
          | 59 => ∃ g, u = .slice (some ⟨g, 0, none⟩) 1 1 ∧ g < w1.heap.size ∧ w1.cell? ⟨g, 0, none⟩ = some (.int .i64 i)
          | 60 => u = .string SI
          | 61 => u = .string (((⟨#[102, 108, 97, 103, 32]⟩ ++ SF) ++ ⟨#[32, 105, 110, 100, 101, 120, 32]⟩) ++ SI)
          | 62 => u = .string ((((⟨#[102, 108, 97, 103, 32]⟩ ++ SF) ++ ⟨#[32, 105, 110, 100, 101, 120, 32]⟩) ++ SI) ++ ⟨#[32]⟩)
          | 63 => u = .string G
          | 64 => u = .string (((((⟨#[102, 108, 97, 103, 32]⟩ ++ SF) ++ ⟨#[32, 105, 110, 100, 101, 120, 32]⟩) ++ SI) ++ ⟨#[32]⟩) ++ G)
          | _ => True
        refine wp_region_rel R (by kernel_rfl) (by kernel_rfl) (by kernel_rfl) ?mono10 ?step10 ?fin10
        case mono10 =>
          intro sl u w1 w2 h hb
          match sl with
          | 53 | 59 =>
            obtain ⟨g, h1, h2, g0⟩ := h
            exact ⟨g, h1, Nat.lt_of_lt_of_le h2 hb.size, (hb.cell (p := ⟨g, 0, none⟩) h2).trans g0⟩
          | 0 | 1 | 2 | 3 | 4 | 5 | 6 | 7 | 8 | 9 | 10 | 11 | 12 | 13 | 14 | 15 | 16 | 17 | 18 | 19 | 20 | 21 | 22 | 23 | 24 | 25 | 26 | 27 | 28 | 29 | 30 | 31 | 32 | 33 | 34 | 35 | 36 | 37 | 38 | 39 | 40 | 41 | 42 | 43 | 44 | 45 | 46 | 47 | 48 | 49 | 50 | 51 | 52 | 54 | 55 | 56 | 57 | 58 | 60 | 61 | 62 | 63 | 64 | _ + 65 => exact h
        case fin10 =>
          intro ff w8 hb hr
          have e4 : ff 4 = .string (((((⟨#[102, 108, 97, 103, 32]⟩ ++ SF) ++ ⟨#[32, 105, 110, 100, 101, 120, 32]⟩) ++ SI) ++ ⟨#[32]⟩) ++ G) := hr 4 (by decide)
          have HB8 := hide (HB9.out.trans (hb.mono HB9.out.size))
          clear hr hb
          simp only [putAll, slotsOf, List.filterMap_cons, List.filterMap_nil, List.foldl_cons, List.foldl_nil, Act.put, e4]
          simp only [List.setIfInBounds_toArray, List.set_cons_succ, List.set_cons_zero]
          go_wp2_with fail
          go_ret
          exact ⟨by rw [FE.out]; rfl, HB8.out⟩
        case step10 =>
          intro o ho
          simp only [List.mem_cons, List.not_mem_nil, or_false] at ho
          rcases ho with rfl | rfl | rfl | rfl | rfl | rfl | rfl | rfl | rfl | rfl | rfl | rfl | rfl | rfl
          · intro a w1 hb hs hr
            have e5 : a.tmps.getD 5 undef = .int .i64 fz := (hs 5 (by decide)).trans (congrArg (Value.int .i64) hfz)
            rw [Array.getD_eq_getD_getElem?] at e5
            unfold Oper.wp
            simp only [execOp, Act.eval, Array.getD_eq_getD_getElem?, e5]
            go_simp
            exact ⟨_, rfl, rfl, Below.refl _ _⟩
          · intro a w1 hb hs hr
            have e52 : a.tmps.getD 52 undef = .int .i64 fz := hr 52 (by decide) (by apply Array.mem_toList_iff.1; repeat (first | exact List.Mem.head _ | apply List.Mem.tail))
            rw [Array.getD_eq_getD_getElem?] at e52
            unfold Oper.wp
            simp only [execOp, Act.eval, Array.getD_eq_getD_getElem?, e52]
            go_simp
            exact ⟨_, rfl, ⟨w1.heap.size, rfl, by simp, by rw [(Blk.new w1 3 _).cell]; rfl⟩, (Below.refl _ _).alloc (Nat.le_refl _) _⟩
          · intro a w1 hb hs hr
            have e53 : ∃ g, a.tmps.getD 53 undef = .slice (some ⟨g, 0, none⟩) 1 1 ∧ g < w1.heap.size ∧ w1.cell? ⟨g, 0, none⟩ = some (.int .i64 fz) := hr 53 (by decide) (by apply Array.mem_toList_iff.1; repeat (first | exact List.Mem.head _ | apply List.Mem.tail))
            obtain ⟨g, e53', hg, g0⟩ := e53
            rw [Array.getD_eq_getD_getElem?] at e53'
            unfold Oper.wp
            simp only [execOp, Act.eval, Array.getD_eq_getD_getElem?, e53']
            go_simp
            refine (DFz.out g w1 hg g0 (HE9.out.below hb (Nat.le_refl _)).pow).mono ?_
            rintro e w' ⟨rfl, hb'⟩
            exact ⟨_, rfl, rfl, hb'⟩
          · intro a w1 hb hs hr
            have e54 : a.tmps.getD 54 undef = .string SF := hr 54 (by decide) (by apply Array.mem_toList_iff.1; repeat (first | exact List.Mem.head _ | apply List.Mem.tail))
            rw [Array.getD_eq_getD_getElem?] at e54
            unfold Oper.wp
            simp only [execOp, Act.eval, Array.getD_eq_getD_getElem?, e54]
            go_simp
            exact ⟨_, rfl, rfl, Below.refl _ _⟩
          · intro a w1 hb hs hr
            have e55 : a.tmps.getD 55 undef = .string (⟨#[102, 108, 97, 103, 32]⟩ ++ SF) := hr 55 (by decide) (by apply Array.mem_toList_iff.1; repeat (first | exact List.Mem.head _ | apply List.Mem.tail))
            rw [Array.getD_eq_getD_getElem?] at e55
            unfold Oper.wp
            simp only [execOp, Act.eval, Array.getD_eq_getD_getElem?, e55]
            go_simp
            exact ⟨_, rfl, rfl, Below.refl _ _⟩
          · intro a w1 hb hs hr
            have e3 : a.tmps.getD 3 undef = .pointer (some ⟨w.heap.size, 0, none⟩) := hs 3 (by decide)
            rw [Array.getD_eq_getD_getElem?] at e3
            unfold Oper.wp
            simp only [execOp, Act.eval, Array.getD_eq_getD_getElem?, e3]
            go_simp
            exact ⟨_, rfl, rfl, Below.refl _ _⟩
          · intro a w1 hb hs hr
            have e57 : a.tmps.getD 57 undef = .pointer (some ⟨w.heap.size, 5, none⟩) := hr 57 (by decide) (by apply Array.mem_toList_iff.1; repeat (first | exact List.Mem.head _ | apply List.Mem.tail))
            have cc : w1.cell? ⟨w.heap.size, 5, none⟩ = some (.int .i64 i) := (hb.cell (p := ⟨w.heap.size, 5, none⟩) hlt).trans p5
            rw [Array.getD_eq_getD_getElem?] at e57
            unfold Oper.wp
            simp only [execOp, Act.eval, Array.getD_eq_getD_getElem?, e57]
            go_simp
            exact ⟨_, rfl, rfl, Below.refl _ _⟩
          · intro a w1 hb hs hr
            have e58 : a.tmps.getD 58 undef = .int .i64 i := hr 58 (by decide) (by apply Array.mem_toList_iff.1; repeat (first | exact List.Mem.head _ | apply List.Mem.tail))
            rw [Array.getD_eq_getD_getElem?] at e58
            unfold Oper.wp
            simp only [execOp, Act.eval, Array.getD_eq_getD_getElem?, e58]
            go_simp
            exact ⟨_, rfl, ⟨w1.heap.size, rfl, by simp, by rw [(Blk.new w1 3 _).cell]; rfl⟩, (Below.refl _ _).alloc (Nat.le_refl _) _⟩
          · intro a w1 hb hs hr
            have e59 : ∃ g, a.tmps.getD 59 undef = .slice (some ⟨g, 0, none⟩) 1 1 ∧ g < w1.heap.size ∧ w1.cell? ⟨g, 0, none⟩ = some (.int .i64 i) := hr 59 (by decide) (by apply Array.mem_toList_iff.1; repeat (first | exact List.Mem.head _ | apply List.Mem.tail))
            obtain ⟨g, e59', hg, g0⟩ := e59
            rw [Array.getD_eq_getD_getElem?] at e59'
            unfold Oper.wp
            simp only [execOp, Act.eval, Array.getD_eq_getD_getElem?, e59']
            go_simp
            refine (DN.out g w1 hg g0 (HE9.out.below hb (Nat.le_refl _)).pow).mono ?_
            rintro e w' ⟨rfl, hb'⟩
            exact ⟨_, rfl, rfl, hb'⟩
          · intro a w1 hb hs hr
            have e56 : a.tmps.getD 56 undef = .string ((⟨#[102, 108, 97, 103, 32]⟩ ++ SF) ++ ⟨#[32, 105, 110, 100, 101, 120, 32]⟩) := hr 56 (by decide) (by apply Array.mem_toList_iff.1; repeat (first | exact List.Mem.head _ | apply List.Mem.tail))
            have e60 : a.tmps.getD 60 undef = .string SI := hr 60 (by decide) (by apply Array.mem_toList_iff.1; repeat (first | exact List.Mem.head _ | apply List.Mem.tail))
            rw [Array.getD_eq_getD_getElem?] at e56
            rw [Array.getD_eq_getD_getElem?] at e60
            unfold Oper.wp
            simp only [execOp, Act.eval, Array.getD_eq_getD_getElem?, e56, e60]
            go_simp
            exact ⟨_, rfl, rfl, Below.refl _ _⟩
          · intro a w1 hb hs hr
            have e61 : a.tmps.getD 61 undef = .string (((⟨#[102, 108, 97, 103, 32]⟩ ++ SF) ++ ⟨#[32, 105, 110, 100, 101, 120, 32]⟩) ++ SI) := hr 61 (by decide) (by apply Array.mem_toList_iff.1; repeat (first | exact List.Mem.head _ | apply List.Mem.tail))
            rw [Array.getD_eq_getD_getElem?] at e61
            unfold Oper.wp
            simp only [execOp, Act.eval, Array.getD_eq_getD_getElem?, e61]
            go_simp
            exact ⟨_, rfl, rfl, Below.refl _ _⟩
          · intro a w1 hb hs hr
            have e6 : a.tmps.getD 6 undef = .string G := hs 6 (by decide)
            rw [Array.getD_eq_getD_getElem?] at e6
            unfold Oper.wp
            simp only [execOp, Act.eval, Array.getD_eq_getD_getElem?, e6]
            go_simp
            exact ⟨_, rfl, rfl, Below.refl _ _⟩
          · intro a w1 hb hs hr
            have e62 : a.tmps.getD 62 undef = .string ((((⟨#[102, 108, 97, 103, 32]⟩ ++ SF) ++ ⟨#[32, 105, 110, 100, 101, 120, 32]⟩) ++ SI) ++ ⟨#[32]⟩) := hr 62 (by decide) (by apply Array.mem_toList_iff.1; repeat (first | exact List.Mem.head _ | apply List.Mem.tail))
            have e63 : a.tmps.getD 63 undef = .string G := hr 63 (by decide) (by apply Array.mem_toList_iff.1; repeat (first | exact List.Mem.head _ | apply List.Mem.tail))
            rw [Array.getD_eq_getD_getElem?] at e62
            rw [Array.getD_eq_getD_getElem?] at e63
            unfold Oper.wp
            simp only [execOp, Act.eval, Array.getD_eq_getD_getElem?, e62, e63]
            go_simp
            exact ⟨_, rfl, rfl, Below.refl _ _⟩
          · intro a w1 hb hs hr
            have e64 : a.tmps.getD 64 undef = .string (((((⟨#[102, 108, 97, 103, 32]⟩ ++ SF) ++ ⟨#[32, 105, 110, 100, 101, 120, 32]⟩) ++ SI) ++ ⟨#[32]⟩) ++ G) := hr 64 (by decide) (by apply Array.mem_toList_iff.1; repeat (first | exact List.Mem.head _ | apply List.Mem.tail))
            rw [Array.getD_eq_getD_getElem?] at e64
            unfold Oper.wp
            simp only [execOp, Act.eval, Array.getD_eq_getD_getElem?, e64]
            go_simp
            exact ⟨_, rfl, rfl, Below.refl _ _⟩
      by_cases k11 : k = 11
      · subst k11
        have FE := hide (HSS.out.symm.trans F4.out)
        have m0 : ¬ 9223372036854775807 < 5 + SF.size := by omega
        have m58 : ¬ 9223372036854775807 < 5 + SF.size + 7 := by omega
        have m121 : ¬ 9223372036854775807 < 5 + SF.size + 7 + SI.size := by omega
        have m195 : ¬ 9223372036854775807 < 5 + SF.size + 7 + SI.size + 1 := by omega
        have m273 : ¬ 9223372036854775807 < 5 + SF.size + 7 + SI.size + 1 + G.size := by omega
        go_wp2_with fail
        clear hlt
        have hlt := hlt9
        let R : Nat → Value → World → Prop := fun sl u w1 => match sl with
          | 4 => u = .string (((((⟨#[102, 108, 97, 103, 32]⟩ ++ SF) ++ ⟨#[32, 105, 110, 100, 101, 120, 32]⟩) ++ SI) ++ ⟨#[32]⟩) ++ G)
          | 52 => u = .int .i64 fz
          | 53 => ∃ g, u = .slice (some ⟨g, 0, none⟩) 1 1 ∧ g < w1.heap.size ∧ w1.cell? ⟨g, 0, none⟩ = some (.int .i64 fz)
          | 54 => u = .string SF
          | 55 => u = .string (⟨#[102, 108, 97, 103, 32]⟩ ++ SF)
          | 56 => u = .string ((⟨#[102, 108, 97, 103, 32]⟩ ++ SF) ++ ⟨#[32, 105, 110, 100, 101, 120, 32]⟩)
          | 57 => u = .pointer (some ⟨w.heap.size, 5, none⟩)
          | 58 => u = .int .i64 i
          | 59 => ∃ g, u = .slice (some ⟨g, 0, none⟩) 1 1 ∧ g < w1.heap.size ∧ w1.cell? ⟨g, 0, none⟩ = some (.int .i64 i)
          | 60 => u = .string SI
          | 61 => u = .string (((⟨#[102, 108, 97, 103, 32]⟩ ++ SF) ++ ⟨#[32, 105, 110, 100, 101, 120, 32]⟩) ++ SI)
          | 62 => u = .string ((((⟨#[102, 108, 97, 103, 32]⟩ ++ SF) ++ ⟨#[32, 105, 110, 100, 101, 120, 32]⟩) ++ SI) ++ ⟨#[32]⟩)
          | 63 => u = .string G
          | 64 => u = .string (((((⟨#[102, 108, 97, 103, 32]⟩ ++ SF) ++ ⟨#[32, 105, 110, 100, 101, 120, 32]⟩) ++ SI) ++ ⟨#[32]⟩) ++ G)
          | _ => True
        refine wp_region_rel R (by kernel_rfl) (by kernel_rfl) (by kernel_rfl) ?mono11 ?step11 ?fin11
        case mono11 =>
          intro sl u w1 w2 h hb
          match sl with
          | 53 | 59 =>
            obtain ⟨g, h1, h2, g0⟩ := h
            exact ⟨g, h1, Nat.lt_of_lt_of_le h2 hb.size, (hb.cell (p := ⟨g, 0, none⟩) h2).trans g0⟩
          | 0 | 1 | 2 | 3 | 4 | 5 | 6 | 7 | 8 | 9 | 10 | 11 | 12 | 13 | 14 | 15 | 16 | 17 | 18 | 19 | 20 | 21 | 22 | 23 | 24 | 25 | 26 | 27 | 28 | 29 | 30 | 31 | 32 | 33 | 34 | 35 | 36 | 37 | 38 | 39 | 40 | 41 | 42 | 43 | 44 | 45 | 46 | 47 | 48 | 49 | 50 | 51 | 52 | 54 | 55 | 56 | 57 | 58 | 60 | 61 | 62 | 63 | 64 | _ + 65 => exact h
        case fin11 =>
          intro ff w8 hb hr
          have e4 : ff 4 = .string (((((⟨#[102, 108, 97, 103, 32]⟩ ++ SF) ++ ⟨#[32, 105, 110, 100, 101, 120, 32]⟩) ++ SI) ++ ⟨#[32]⟩) ++ G) := hr 4 (by decide)
          have HB8 := hide (HB9.out.trans (hb.mono HB9.out.size))
          clear hr hb
          simp only [putAll, slotsOf, List.filterMap_cons, List.filterMap_nil, List.foldl_cons, List.foldl_nil, Act.put, e4]
          simp only [List.setIfInBounds_toArray, List.set_cons_succ, List.set_cons_zero]
          go_wp2_with fail
          go_ret
          exact ⟨by rw [FE.out]; rfl, HB8.out⟩
        case step11 =>
          intro o ho
          simp only [List.mem_cons, List.not_mem_nil, or_false] at ho
          rcases ho with rfl | rfl | rfl | rfl | rfl | rfl | rfl | rfl | rfl | rfl | rfl | rfl | rfl | rfl
          · intro a w1 hb hs hr
            have e5 : a.tmps.getD 5 undef = .int .i64 fz := (hs 5 (by decide)).trans (congrArg (Value.int .i64) hfz)
            rw [Array.getD_eq_getD_getElem?] at e5
            unfold Oper.wp
            simp only [execOp, Act.eval, Array.getD_eq_getD_getElem?, e5]
            go_simp
            exact ⟨_, rfl, rfl, Below.refl _ _⟩
          · intro a w1 hb hs hr
            have e52 : a.tmps.getD 52 undef = .int .i64 fz := hr 52 (by decide) (by apply Array.mem_toList_iff.1; repeat (first | exact List.Mem.head _ | apply List.Mem.tail))
            rw [Array.getD_eq_getD_getElem?] at e52
            unfold Oper.wp
            simp only [execOp, Act.eval, Array.getD_eq_getD_getElem?, e52]
            go_simp
            exact ⟨_, rfl, ⟨w1.heap.size, rfl, by simp, by rw [(Blk.new w1 3 _).cell]; rfl⟩, (Below.refl _ _).alloc (Nat.le_refl _) _⟩
          · intro a w1 hb hs hr
            have e53 : ∃ g, a.tmps.getD 53 undef = .slice (some ⟨g, 0, none⟩) 1 1 ∧ g < w1.heap.size ∧ w1.cell? ⟨g, 0, none⟩ = some (.int .i64 fz) := hr 53 (by decide) (by apply Array.mem_toList_iff.1; repeat (first | exact List.Mem.head _ | apply List.Mem.tail))
            obtain ⟨g, e53', hg, g0⟩ := e53
            rw [Array.getD_eq_getD_getElem?] at e53'
            unfold Oper.wp
            simp only [execOp, Act.eval, Array.getD_eq_getD_getElem?, e53']
            go_simp
            refine (DFz.out g w1 hg g0 (HE9.out.below hb (Nat.le_refl _)).pow).mono ?_
            rintro e w' ⟨rfl, hb'⟩
            exact ⟨_, rfl, rfl, hb'⟩
          · intro a w1 hb hs hr
            have e54 : a.tmps.getD 54 undef = .string SF := hr 54 (by decide) (by apply Array.mem_toList_iff.1; repeat (first | exact List.Mem.head _ | apply List.Mem.tail))
            rw [Array.getD_eq_getD_getElem?] at e54
            unfold Oper.wp
            simp only [execOp, Act.eval, Array.getD_eq_getD_getElem?, e54]
            go_simp
            exact ⟨_, rfl, rfl, Below.refl _ _⟩
          · intro a w1 hb hs hr
            have e55 : a.tmps.getD 55 undef = .string (⟨#[102, 108, 97, 103, 32]⟩ ++ SF) := hr 55 (by decide) (by apply Array.mem_toList_iff.1; repeat (first | exact List.Mem.head _ | apply List.Mem.tail))
            rw [Array.getD_eq_getD_getElem?] at e55
            unfold Oper.wp
            simp only [execOp, Act.eval, Array.getD_eq_getD_getElem?, e55]
            go_simp
            exact ⟨_, rfl, rfl, Below.refl _ _⟩
          · intro a w1 hb hs hr
            have e3 : a.tmps.getD 3 undef = .pointer (some ⟨w.heap.size, 0, none⟩) := hs 3 (by decide)
            rw [Array.getD_eq_getD_getElem?] at e3
            unfold Oper.wp
            simp only [execOp, Act.eval, Array.getD_eq_getD_getElem?, e3]
            go_simp
            exact ⟨_, rfl, rfl, Below.refl _ _⟩
          · intro a w1 hb hs hr
            have e57 : a.tmps.getD 57 undef = .pointer (some ⟨w.heap.size, 5, none⟩) := hr 57 (by decide) (by apply Array.mem_toList_iff.1; repeat (first | exact List.Mem.head _ | apply List.Mem.tail))
            have cc : w1.cell? ⟨w.heap.size, 5, none⟩ = some (.int .i64 i) := (hb.cell (p := ⟨w.heap.size, 5, none⟩) hlt).trans p5
            rw [Array.getD_eq_getD_getElem?] at e57
            unfold Oper.wp
            simp only [execOp, Act.eval, Array.getD_eq_getD_getElem?, e57]
            go_simp
            exact ⟨_, rfl, rfl, Below.refl _ _⟩
          · intro a w1 hb hs hr
            have e58 : a.tmps.getD 58 undef = .int .i64 i := hr 58 (by decide) (by apply Array.mem_toList_iff.1; repeat (first | exact List.Mem.head _ | apply List.Mem.tail))
            rw [Array.getD_eq_getD_getElem?] at e58
            unfold Oper.wp
            simp only [execOp, Act.eval, Array.getD_eq_getD_getElem?, e58]
            go_simp
            exact ⟨_, rfl, ⟨w1.heap.size, rfl, by simp, by rw [(Blk.new w1 3 _).cell]; rfl⟩, (Below.refl _ _).alloc (Nat.le_refl _) _⟩
          · intro a w1 hb hs hr
            have e59 : ∃ g, a.tmps.getD 59 undef = .slice (some ⟨g, 0, none⟩) 1 1 ∧ g < w1.heap.size ∧ w1.cell? ⟨g, 0, none⟩ = some (.int .i64 i) := hr 59 (by decide) (by apply Array.mem_toList_iff.1; repeat (first | exact List.Mem.head _ | apply List.Mem.tail))
            obtain ⟨g, e59', hg, g0⟩ := e59
            rw [Array.getD_eq_getD_getElem?] at e59'
            unfold Oper.wp
            simp only [execOp, Act.eval, Array.getD_eq_getD_getElem?, e59']
            go_simp
            refine (DN.out g w1 hg g0 (HE9.out.below hb (Nat.le_refl _)).pow).mono ?_
            rintro e w' ⟨rfl, hb'⟩
            exact ⟨_, rfl, rfl, hb'⟩
          · intro a w1 hb hs hr
            have e56 : a.tmps.getD 56 undef = .string ((⟨#[102, 108, 97, 103, 32]⟩ ++ SF) ++ ⟨#[32, 105, 110, 100, 101, 120, 32]⟩) := hr 56 (by decide) (by apply Array.mem_toList_iff.1; repeat (first | exact List.Mem.head _ | apply List.Mem.tail))
            have e60 : a.tmps.getD 60 undef = .string SI := hr 60 (by decide) (by apply Array.mem_toList_iff.1; repeat (first | exact List.Mem.head _ | apply List.Mem.tail))
            rw [Array.getD_eq_getD_getElem?] at e56
            rw [Array.getD_eq_getD_getElem?] at e60
            unfold Oper.wp
            simp only [execOp, Act.eval, Array.getD_eq_getD_getElem?, e56, e60]
            go_simp
            exact ⟨_, rfl, rfl, Below.refl _ _⟩
          · intro a w1 hb hs hr
            have e61 : a.tmps.getD 61 undef = .string (((⟨#[102, 108, 97, 103, 32]⟩ ++ SF) ++ ⟨#[32, 105, 110, 100, 101, 120, 32]⟩) ++ SI) := hr 61 (by decide) (by apply Array.mem_toList_iff.1; repeat (first | exact List.Mem.head _ | apply List.Mem.tail))
            rw [Array.getD_eq_getD_getElem?] at e61
            unfold Oper.wp
            simp only [execOp, Act.eval, Array.getD_eq_getD_getElem?, e61]
            go_simp
            exact ⟨_, rfl, rfl, Below.refl _ _⟩
          · intro a w1 hb hs hr
            have e6 : a.tmps.getD 6 undef = .string G := hs 6 (by decide)
            rw [Array.getD_eq_getD_getElem?] at e6
            unfold Oper.wp
            simp only [execOp, Act.eval, Array.getD_eq_getD_getElem?, e6]
            go_simp
            exact ⟨_, rfl, rfl, Below.refl _ _⟩
          · intro a w1 hb hs hr
            have e62 : a.tmps.getD 62 undef = .string ((((⟨#[102, 108, 97, 103, 32]⟩ ++ SF) ++ ⟨#[32, 105, 110, 100, 101, 120, 32]⟩) ++ SI) ++ ⟨#[32]⟩) := hr 62 (by decide) (by apply Array.mem_toList_iff.1; repeat (first | exact List.Mem.head _ | apply List.Mem.tail))
            have e63 : a.tmps.getD 63 undef = .string G := hr 63 (by decide) (by apply Array.mem_toList_iff.1; repeat (first | exact List.Mem.head _ | apply List.Mem.tail))
            rw [Array.getD_eq_getD_getElem?] at e62
            rw [Array.getD_eq_getD_getElem?] at e63
            unfold Oper.wp
            simp only [execOp, Act.eval, Array.getD_eq_getD_getElem?, e62, e63]
            go_simp
            exact ⟨_, rfl, rfl, Below.refl _ _⟩
          · intro a w1 hb hs hr
            have e64 : a.tmps.getD 64 undef = .string (((((⟨#[102, 108, 97, 103, 32]⟩ ++ SF) ++ ⟨#[32, 105, 110, 100, 101, 120, 32]⟩) ++ SI) ++ ⟨#[32]⟩) ++ G) := hr 64 (by decide) (by apply Array.mem_toList_iff.1; repeat (first | exact List.Mem.head _ | apply List.Mem.tail))
            rw [Array.getD_eq_getD_getElem?] at e64
            unfold Oper.wp
            simp only [execOp, Act.eval, Array.getD_eq_getD_getElem?, e64]
            go_simp
            exact ⟨_, rfl, rfl, Below.refl _ _⟩
      by_cases k12 : k = 12
      · subst k12
        have FE := hide (HSS.out.symm.trans F4.out)
        have m0 : ¬ 9223372036854775807 < 5 + SF.size := by omega
        have m58 : ¬ 9223372036854775807 < 5 + SF.size + 7 := by omega
        have m121 : ¬ 9223372036854775807 < 5 + SF.size + 7 + SI.size := by omega
        have m195 : ¬ 9223372036854775807 < 5 + SF.size + 7 + SI.size + 1 := by omega
        have m273 : ¬ 9223372036854775807 < 5 + SF.size + 7 + SI.size + 1 + G.size := by omega
        go_wp2_with fail
        clear hlt
        have hlt := hlt9
        let R : Nat → Value → World → Prop := fun sl u w1 => match sl with
          | 4 => u = .string (((((⟨#[102, 108, 97, 103, 32]⟩ ++ SF) ++ ⟨#[32, 105, 110, 100, 101, 120, 32]⟩) ++ SI) ++ ⟨#[32]⟩) ++ G)
          | 52 => u = .int .i64 fz
          | 53 => ∃ g, u = .slice (some ⟨g, 0, none⟩) 1 1 ∧ g < w1.heap.size ∧ w1.cell? ⟨g, 0, none⟩ = some (.int .i64 fz)
          | 54 => u = .string SF
          | 55 => u = .string (⟨#[102, 108, 97, 103, 32]⟩ ++ SF)
          | 56 => u = .string ((⟨#[102, 108, 97, 103, 32]⟩ ++ SF) ++ ⟨#[32, 105, 110, 100, 101, 120, 32]⟩)
          | 57 => u = .pointer (some ⟨w.heap.size, 5, none⟩)
          | 58 => u = .int .i64 i
          | 59 => ∃ g, u = .slice (some ⟨g, 0, none⟩) 1 1 ∧ g < w1.heap.size ∧ w1.cell? ⟨g, 0, none⟩ = some (.int .i64 i)
          | 60 => u = .string SI
          | 61 => u = .string (((⟨#[102, 108, 97, 103, 32]⟩ ++ SF) ++ ⟨#[32, 105, 110, 100, 101, 120, 32]⟩) ++ SI)
          | 62 => u = .string ((((⟨#[102, 108, 97, 103, 32]⟩ ++ SF) ++ ⟨#[32, 105, 110, 100, 101, 120, 32]⟩) ++ SI) ++ ⟨#[32]⟩)
          | 63 => u = .string G
          | 64 => u = .string (((((⟨#[102, 108, 97, 103, 32]⟩ ++ SF) ++ ⟨#[32, 105, 110, 100, 101, 120, 32]⟩) ++ SI) ++ ⟨#[32]⟩) ++ G)
          | _ => True
        refine wp_region_rel R (by kernel_rfl) (by kernel_rfl) (by kernel_rfl) ?mono12 ?step12 ?fin12
        case mono12 =>
          intro sl u w1 w2 h hb
          match sl with
          | 53 | 59 =>
            obtain ⟨g, h1, h2, g0⟩ := h
            exact ⟨g, h1, Nat.lt_of_lt_of_le h2 hb.size, (hb.cell (p := ⟨g, 0, none⟩) h2).trans g0⟩
          | 0 | 1 | 2 | 3 | 4 | 5 | 6 | 7 | 8 | 9 | 10 | 11 | 12 | 13 | 14 | 15 | 16 | 17 | 18 | 19 | 20 | 21 | 22 | 23 | 24 | 25 | 26 | 27 | 28 | 29 | 30 | 31 | 32 | 33 | 34 | 35 | 36 | 37 | 38 | 39 | 40 | 41 | 42 | 43 | 44 | 45 | 46 | 47 | 48 | 49 | 50 | 51 | 52 | 54 | 55 | 56 | 57 | 58 | 60 | 61 | 62 | 63 | 64 | _ + 65 => exact h
        case fin12 =>
          intro ff w8 hb hr
          have e4 : ff 4 = .string (((((⟨#[102, 108, 97, 103, 32]⟩ ++ SF) ++ ⟨#[32, 105, 110, 100, 101, 120, 32]⟩) ++ SI) ++ ⟨#[32]⟩) ++ G) := hr 4 (by decide)
          have HB8 := hide (HB9.out.trans (hb.mono HB9.out.size))
          clear hr hb
          simp only [putAll, slotsOf, List.filterMap_cons, List.filterMap_nil, List.foldl_cons, List.foldl_nil, Act.put, e4]
          simp only [List.setIfInBounds_toArray, List.set_cons_succ, List.set_cons_zero]
          go_wp2_with fail
          go_ret
          exact ⟨by rw [FE.out]; rfl, HB8.out⟩
        case step12 =>
          intro o ho
          simp only [List.mem_cons, List.not_mem_nil, or_false] at ho
          rcases ho with rfl | rfl | rfl | rfl | rfl | rfl | rfl | rfl | rfl | rfl | rfl | rfl | rfl | rfl
          · intro a w1 hb hs hr
            have e5 : a.tmps.getD 5 undef = .int .i64 fz := (hs 5 (by decide)).trans (congrArg (Value.int .i64) hfz)
            rw [Array.getD_eq_getD_getElem?] at e5
            unfold Oper.wp
            simp only [execOp, Act.eval, Array.getD_eq_getD_getElem?, e5]
            go_simp
            exact ⟨_, rfl, rfl, Below.refl _ _⟩
          · intro a w1 hb hs hr
            have e52 : a.tmps.getD 52 undef = .int .i64 fz := hr 52 (by decide) (by apply Array.mem_toList_iff.1; repeat (first | exact List.Mem.head _ | apply List.Mem.tail))
            rw [Array.getD_eq_getD_getElem?] at e52
            unfold Oper.wp
            simp only [execOp, Act.eval, Array.getD_eq_getD_getElem?, e52]
            go_simp
            exact ⟨_, rfl, ⟨w1.heap.size, rfl, by simp, by rw [(Blk.new w1 3 _).cell]; rfl⟩, (Below.refl _ _).alloc (Nat.le_refl _) _⟩
          · intro a w1 hb hs hr
            have e53 : ∃ g, a.tmps.getD 53 undef = .slice (some ⟨g, 0, none⟩) 1 1 ∧ g < w1.heap.size ∧ w1.cell? ⟨g, 0, none⟩ = some (.int .i64 fz) := hr 53 (by decide) (by apply Array.mem_toList_iff.1; repeat (first | exact List.Mem.head _ | apply List.Mem.tail))
            obtain ⟨g, e53', hg, g0⟩ := e53
            rw [Array.getD_eq_getD_getElem?] at e53'
            unfold Oper.wp
            simp only [execOp, Act.eval, Array.getD_eq_getD_getElem?, e53']
            go_simp
            refine (DFz.out g w1 hg g0 (HE9.out.below hb (Nat.le_refl _)).pow).mono ?_
            rintro e w' ⟨rfl, hb'⟩
            exact ⟨_, rfl, rfl, hb'⟩
          · intro a w1 hb hs hr
            have e54 : a.tmps.getD 54 undef = .string SF := hr 54 (by decide) (by apply Array.mem_toList_iff.1; repeat (first | exact List.Mem.head _ | apply List.Mem.tail))
            rw [Array.getD_eq_getD_getElem?] at e54
            unfold Oper.wp
            simp only [execOp, Act.eval, Array.getD_eq_getD_getElem?, e54]
            go_simp
            exact ⟨_, rfl, rfl, Below.refl _ _⟩
          · intro a w1 hb hs hr
            have e55 : a.tmps.getD 55 undef = .string (⟨#[102, 108, 97, 103, 32]⟩ ++ SF) := hr 55 (by decide) (by apply Array.mem_toList_iff.1; repeat (first | exact List.Mem.head _ | apply List.Mem.tail))
            rw [Array.getD_eq_getD_getElem?] at e55
            unfold Oper.wp
            simp only [execOp, Act.eval, Array.getD_eq_getD_getElem?, e55]
            go_simp
            exact ⟨_, rfl, rfl, Below.refl _ _⟩
          · intro a w1 hb hs hr
            have e3 : a.tmps.getD 3 undef = .pointer (some ⟨w.heap.size, 0, none⟩) := hs 3 (by decide)
            rw [Array.getD_eq_getD_getElem?] at e3
            unfold Oper.wp
            simp only [execOp, Act.eval, Array.getD_eq_getD_getElem?, e3]
            go_simp
            exact ⟨_, rfl, rfl, Below.refl _ _⟩
          · intro a w1 hb hs hr
            have e57 : a.tmps.getD 57 undef = .pointer (some ⟨w.heap.size, 5, none⟩) := hr 57 (by decide) (by apply Array.mem_toList_iff.1; repeat (first | exact List.Mem.head _ | apply List.Mem.tail))
            have cc : w1.cell? ⟨w.heap.size, 5, none⟩ = some (.int .i64 i) := (hb.cell (p := ⟨w.heap.size, 5, none⟩) hlt).trans p5
            rw [Array.getD_eq_getD_getElem?] at e57
            unfold Oper.wp
            simp only [execOp, Act.eval, Array.getD_eq_getD_getElem?, e57]
            go_simp
            exact ⟨_, rfl, rfl, Below.refl _ _⟩
          · intro a w1 hb hs hr
            have e58 : a.tmps.getD 58 undef = .int .i64 i := hr 58 (by decide) (by apply Array.mem_toList_iff.1; repeat (first | exact List.Mem.head _ | apply List.Mem.tail))
            rw [Array.getD_eq_getD_getElem?] at e58
            unfold Oper.wp
            simp only [execOp, Act.eval, Array.getD_eq_getD_getElem?, e58]
            go_simp
            exact ⟨_, rfl, ⟨w1.heap.size, rfl, by simp, by rw [(Blk.new w1 3 _).cell]; rfl⟩, (Below.refl _ _).alloc (Nat.le_refl _) _⟩
          · intro a w1 hb hs hr
            have e59 : ∃ g, a.tmps.getD 59 undef = .slice (some ⟨g, 0, none⟩) 1 1 ∧ g < w1.heap.size ∧ w1.cell? ⟨g, 0, none⟩ = some (.int .i64 i) := hr 59 (by decide) (by apply Array.mem_toList_iff.1; repeat (first | exact List.Mem.head _ | apply List.Mem.tail))
            obtain ⟨g, e59', hg, g0⟩ := e59
            rw [Array.getD_eq_getD_getElem?] at e59'
            unfold Oper.wp
            simp only [execOp, Act.eval, Array.getD_eq_getD_getElem?, e59']
            go_simp
            refine (DN.out g w1 hg g0 (HE9.out.below hb (Nat.le_refl _)).pow).mono ?_
            rintro e w' ⟨rfl, hb'⟩
            exact ⟨_, rfl, rfl, hb'⟩
          · intro a w1 hb hs hr
            have e56 : a.tmps.getD 56 undef = .string ((⟨#[102, 108, 97, 103, 32]⟩ ++ SF) ++ ⟨#[32, 105, 110, 100, 101, 120, 32]⟩) := hr 56 (by decide) (by apply Array.mem_toList_iff.1; repeat (first | exact List.Mem.head _ | apply List.Mem.tail))
            have e60 : a.tmps.getD 60 undef = .string SI := hr 60 (by decide) (by apply Array.mem_toList_iff.1; repeat (first | exact List.Mem.head _ | apply List.Mem.tail))
            rw [Array.getD_eq_getD_getElem?] at e56
            rw [Array.getD_eq_getD_getElem?] at e60
            unfold Oper.wp
            simp only [execOp, Act.eval, Array.getD_eq_getD_getElem?, e56, e60]
            go_simp
            exact ⟨_, rfl, rfl, Below.refl _ _⟩
          · intro a w1 hb hs hr
            have e61 : a.tmps.getD 61 undef = .string (((⟨#[102, 108, 97, 103, 32]⟩ ++ SF) ++ ⟨#[32, 105, 110, 100, 101, 120, 32]⟩) ++ SI) := hr 61 (by decide) (by apply Array.mem_toList_iff.1; repeat (first | exact List.Mem.head _ | apply List.Mem.tail))
            rw [Array.getD_eq_getD_getElem?] at e61
            unfold Oper.wp
            simp only [execOp, Act.eval, Array.getD_eq_getD_getElem?, e61]
            go_simp
            exact ⟨_, rfl, rfl, Below.refl _ _⟩
          · intro a w1 hb hs hr
            have e6 : a.tmps.getD 6 undef = .string G := hs 6 (by decide)
            rw [Array.getD_eq_getD_getElem?] at e6
            unfold Oper.wp
            simp only [execOp, Act.eval, Array.getD_eq_getD_getElem?, e6]
            go_simp
            exact ⟨_, rfl, rfl, Below.refl _ _⟩
          · intro a w1 hb hs hr
            have e62 : a.tmps.getD 62 undef = .string ((((⟨#[102, 108, 97, 103, 32]⟩ ++ SF) ++ ⟨#[32, 105, 110, 100, 101, 120, 32]⟩) ++ SI) ++ ⟨#[32]⟩) := hr 62 (by decide) (by apply Array.mem_toList_iff.1; repeat (first | exact List.Mem.head _ | apply List.Mem.tail))
            have e63 : a.tmps.getD 63 undef = .string G := hr 63 (by decide) (by apply Array.mem_toList_iff.1; repeat (first | exact List.Mem.head _ | apply List.Mem.tail))
            rw [Array.getD_eq_getD_getElem?] at e62
            rw [Array.getD_eq_getD_getElem?] at e63
            unfold Oper.wp
            simp only [execOp, Act.eval, Array.getD_eq_getD_getElem?, e62, e63]
            go_simp
            exact ⟨_, rfl, rfl, Below.refl _ _⟩
          · intro a w1 hb hs hr
            have e64 : a.tmps.getD 64 undef = .string (((((⟨#[102, 108, 97, 103, 32]⟩ ++ SF) ++ ⟨#[32, 105, 110, 100, 101, 120, 32]⟩) ++ SI) ++ ⟨#[32]⟩) ++ G) := hr 64 (by decide) (by apply Array.mem_toList_iff.1; repeat (first | exact List.Mem.head _ | apply List.Mem.tail))
            rw [Array.getD_eq_getD_getElem?] at e64
            unfold Oper.wp
            simp only [execOp, Act.eval, Array.getD_eq_getD_getElem?, e64]
            go_simp
            exact ⟨_, rfl, rfl, Below.refl _ _⟩
      by_cases k13 : k = 13
      · subst k13
        have FE := hide (HSS.out.symm.trans F5.out)
        have m0 : ¬ 9223372036854775807 < 5 + SF.size := by omega
        have m58 : ¬ 9223372036854775807 < 5 + SF.size + 6 := by omega
        have m121 : ¬ 9223372036854775807 < 5 + SF.size + 6 + SP.size := by omega
        have m195 : ¬ 9223372036854775807 < 5 + SF.size + 6 + SP.size + 5 := by omega
        have m273 : ¬ 9223372036854775807 < 5 + SF.size + 6 + SP.size + 5 + ST.size := by omega
        go_wp2_with fail
        clear hlt
        have hlt := hlt9
        let R : Nat → Value → World → Prop := fun sl u w1 => match sl with
          | 4 => u = .string (((((⟨#[102, 108, 97, 103, 32]⟩ ++ SF) ++ ⟨#[32, 112, 101, 101, 114, 32]⟩) ++ SP) ++ ⟨#[32, 116, 97, 103, 32]⟩) ++ ST)
          | 68 => u = .int .i64 fz
          | 69 => ∃ g, u = .slice (some ⟨g, 0, none⟩) 1 1 ∧ g < w1.heap.size ∧ w1.cell? ⟨g, 0, none⟩ = some (.int .i64 fz)
          | 70 => u = .string SF
          | 71 => u = .string (⟨#[102, 108, 97, 103, 32]⟩ ++ SF)
          | 72 => u = .string ((⟨#[102, 108, 97, 103, 32]⟩ ++ SF) ++ ⟨#[32, 112, 101, 101, 114, 32]⟩)
          | 73 => u = .pointer (some ⟨w.heap.size, 2, none⟩)
          | 74 => u = .int .i64 p
          | 75 => ∃ g, u = .slice (some ⟨g, 0, none⟩) 1 1 ∧ g < w1.heap.size ∧ w1.cell? ⟨g, 0, none⟩ = some (.int .i64 p)
          | 76 => u = .string SP
          | 77 => u = .string (((⟨#[102, 108, 97, 103, 32]⟩ ++ SF) ++ ⟨#[32, 112, 101, 101, 114, 32]⟩) ++ SP)
          | 78 => u = .string ((((⟨#[102, 108, 97, 103, 32]⟩ ++ SF) ++ ⟨#[32, 112, 101, 101, 114, 32]⟩) ++ SP) ++ ⟨#[32, 116, 97, 103, 32]⟩)
          | 79 => u = .pointer (some ⟨w.heap.size, 3, none⟩)
          | 80 => u = .int .i64 t
          | 81 => ∃ g, u = .slice (some ⟨g, 0, none⟩) 1 1 ∧ g < w1.heap.size ∧ w1.cell? ⟨g, 0, none⟩ = some (.int .i64 t)
          | 82 => u = .string ST
          | 83 => u = .string (((((⟨#[102, 108, 97, 103, 32]⟩ ++ SF) ++ ⟨#[32, 112, 101, 101, 114, 32]⟩) ++ SP) ++ ⟨#[32, 116, 97, 103, 32]⟩) ++ ST)
          | _ => True
        refine wp_region_rel R (by kernel_rfl) (by kernel_rfl) (by kernel_rfl) ?mono13 ?step13 ?fin13
        case mono13 =>
          intro sl u w1 w2 h hb
          match sl with
          | 69 | 75 | 81 =>
            obtain ⟨g, h1, h2, g0⟩ := h
            exact ⟨g, h1, Nat.lt_of_lt_of_le h2 hb.size, (hb.cell (p := ⟨g, 0, none⟩) h2).trans g0⟩
          | 0 | 1 | 2 | 3 | 4 | 5 | 6 | 7 | 8 | 9 | 10 | 11 | 12 | 13 | 14 | 15 | 16 | 17 | 18 | 19 | 20 | 21 | 22 | 23 | 24 | 25 | 26 | 27 | 28 | 29 | 30 | 31 | 32 | 33 | 34 | 35 | 36 | 37 | 38 | 39 | 40 | 41 | 42 | 43 | 44 | 45 | 46 | 47 | 48 | 49 | 50 | 51 | 52 | 53 | 54 | 55 | 56 | 57 | 58 | 59 | 60 | 61 | 62 | 63 | 64 | 65 | 66 | 67 | 68 | 70 | 71 | 72 | 73 | 74 | 76 | 77 | 78 | 79 | 80 | 82 | 83 | _ + 84 => exact h
        case fin13 =>
          intro ff w8 hb hr
          have e4 : ff 4 = .string (((((⟨#[102, 108, 97, 103, 32]⟩ ++ SF) ++ ⟨#[32, 112, 101, 101, 114, 32]⟩) ++ SP) ++ ⟨#[32, 116, 97, 103, 32]⟩) ++ ST) := hr 4 (by decide)
          have HB8 := hide (HB9.out.trans (hb.mono HB9.out.size))
          clear hr hb
          simp only [putAll, slotsOf, List.filterMap_cons, List.filterMap_nil, List.foldl_cons, List.foldl_nil, Act.put, e4]
          simp only [List.setIfInBounds_toArray, List.set_cons_succ, List.set_cons_zero]
          go_wp2_with fail
          go_ret
          exact ⟨by rw [FE.out]; rfl, HB8.out⟩
        case step13 =>
          intro o ho
          simp only [List.mem_cons, List.not_mem_nil, or_false] at ho
          rcases ho with rfl | rfl | rfl | rfl | rfl | rfl | rfl | rfl | rfl | rfl | rfl | rfl | rfl | rfl | rfl | rfl | rfl
          · intro a w1 hb hs hr
            have e5 : a.tmps.getD 5 undef = .int .i64 fz := (hs 5 (by decide)).trans (congrArg (Value.int .i64) hfz)
            rw [Array.getD_eq_getD_getElem?] at e5
            unfold Oper.wp
            simp only [execOp, Act.eval, Array.getD_eq_getD_getElem?, e5]
            go_simp
            exact ⟨_, rfl, rfl, Below.refl _ _⟩
          · intro a w1 hb hs hr
            have e68 : a.tmps.getD 68 undef = .int .i64 fz := hr 68 (by decide) (by apply Array.mem_toList_iff.1; repeat (first | exact List.Mem.head _ | apply List.Mem.tail))
            rw [Array.getD_eq_getD_getElem?] at e68
            unfold Oper.wp
            simp only [execOp, Act.eval, Array.getD_eq_getD_getElem?, e68]
            go_simp
            exact ⟨_, rfl, ⟨w1.heap.size, rfl, by simp, by rw [(Blk.new w1 3 _).cell]; rfl⟩, (Below.refl _ _).alloc (Nat.le_refl _) _⟩
          · intro a w1 hb hs hr
            have e69 : ∃ g, a.tmps.getD 69 undef = .slice (some ⟨g, 0, none⟩) 1 1 ∧ g < w1.heap.size ∧ w1.cell? ⟨g, 0, none⟩ = some (.int .i64 fz) := hr 69 (by decide) (by apply Array.mem_toList_iff.1; repeat (first | exact List.Mem.head _ | apply List.Mem.tail))
            obtain ⟨g, e69', hg, g0⟩ := e69
            rw [Array.getD_eq_getD_getElem?] at e69'
            unfold Oper.wp
            simp only [execOp, Act.eval, Array.getD_eq_getD_getElem?, e69']
            go_simp
            refine (DFz.out g w1 hg g0 (HE9.out.below hb (Nat.le_refl _)).pow).mono ?_
            rintro e w' ⟨rfl, hb'⟩
            exact ⟨_, rfl, rfl, hb'⟩
          · intro a w1 hb hs hr
            have e70 : a.tmps.getD 70 undef = .string SF := hr 70 (by decide) (by apply Array.mem_toList_iff.1; repeat (first | exact List.Mem.head _ | apply List.Mem.tail))
            rw [Array.getD_eq_getD_getElem?] at e70
            unfold Oper.wp
            simp only [execOp, Act.eval, Array.getD_eq_getD_getElem?, e70]
            go_simp
            exact ⟨_, rfl, rfl, Below.refl _ _⟩
          · intro a w1 hb hs hr
            have e71 : a.tmps.getD 71 undef = .string (⟨#[102, 108, 97, 103, 32]⟩ ++ SF) := hr 71 (by decide) (by apply Array.mem_toList_iff.1; repeat (first | exact List.Mem.head _ | apply List.Mem.tail))
            rw [Array.getD_eq_getD_getElem?] at e71
            unfold Oper.wp
            simp only [execOp, Act.eval, Array.getD_eq_getD_getElem?, e71]
            go_simp
            exact ⟨_, rfl, rfl, Below.refl _ _⟩
          · intro a w1 hb hs hr
            have e3 : a.tmps.getD 3 undef = .pointer (some ⟨w.heap.size, 0, none⟩) := hs 3 (by decide)
            rw [Array.getD_eq_getD_getElem?] at e3
            unfold Oper.wp
            simp only [execOp, Act.eval, Array.getD_eq_getD_getElem?, e3]
            go_simp
            exact ⟨_, rfl, rfl, Below.refl _ _⟩
          · intro a w1 hb hs hr
            have e73 : a.tmps.getD 73 undef = .pointer (some ⟨w.heap.size, 2, none⟩) := hr 73 (by decide) (by apply Array.mem_toList_iff.1; repeat (first | exact List.Mem.head _ | apply List.Mem.tail))
            have cc : w1.cell? ⟨w.heap.size, 2, none⟩ = some (.int .i64 p) := (hb.cell (p := ⟨w.heap.size, 2, none⟩) hlt).trans p2
            rw [Array.getD_eq_getD_getElem?] at e73
            unfold Oper.wp
            simp only [execOp, Act.eval, Array.getD_eq_getD_getElem?, e73]
            go_simp
            exact ⟨_, rfl, rfl, Below.refl _ _⟩
          · intro a w1 hb hs hr
            have e74 : a.tmps.getD 74 undef = .int .i64 p := hr 74 (by decide) (by apply Array.mem_toList_iff.1; repeat (first | exact List.Mem.head _ | apply List.Mem.tail))
            rw [Array.getD_eq_getD_getElem?] at e74
            unfold Oper.wp
            simp only [execOp, Act.eval, Array.getD_eq_getD_getElem?, e74]
            go_simp
            exact ⟨_, rfl, ⟨w1.heap.size, rfl, by simp, by rw [(Blk.new w1 3 _).cell]; rfl⟩, (Below.refl _ _).alloc (Nat.le_refl _) _⟩
          · intro a w1 hb hs hr
            have e75 : ∃ g, a.tmps.getD 75 undef = .slice (some ⟨g, 0, none⟩) 1 1 ∧ g < w1.heap.size ∧ w1.cell? ⟨g, 0, none⟩ = some (.int .i64 p) := hr 75 (by decide) (by apply Array.mem_toList_iff.1; repeat (first | exact List.Mem.head _ | apply List.Mem.tail))
            obtain ⟨g, e75', hg, g0⟩ := e75
            rw [Array.getD_eq_getD_getElem?] at e75'
            unfold Oper.wp
            simp only [execOp, Act.eval, Array.getD_eq_getD_getElem?, e75']
            go_simp
            refine (DP.out g w1 hg g0 (HE9.out.below hb (Nat.le_refl _)).pow).mono ?_
            rintro e w' ⟨rfl, hb'⟩
            exact ⟨_, rfl, rfl, hb'⟩
          · intro a w1 hb hs hr
            have e72 : a.tmps.getD 72 undef = .string ((⟨#[102, 108, 97, 103, 32]⟩ ++ SF) ++ ⟨#[32, 112, 101, 101, 114, 32]⟩) := hr 72 (by decide) (by apply Array.mem_toList_iff.1; repeat (first | exact List.Mem.head _ | apply List.Mem.tail))
            have e76 : a.tmps.getD 76 undef = .string SP := hr 76 (by decide) (by apply Array.mem_toList_iff.1; repeat (first | exact List.Mem.head _ | apply List.Mem.tail))
            rw [Array.getD_eq_getD_getElem?] at e72
            rw [Array.getD_eq_getD_getElem?] at e76
            unfold Oper.wp
            simp only [execOp, Act.eval, Array.getD_eq_getD_getElem?, e72, e76]
            go_simp
            exact ⟨_, rfl, rfl, Below.refl _ _⟩
          · intro a w1 hb hs hr
            have e77 : a.tmps.getD 77 undef = .string (((⟨#[102, 108, 97, 103, 32]⟩ ++ SF) ++ ⟨#[32, 112, 101, 101, 114, 32]⟩) ++ SP) := hr 77 (by decide) (by apply Array.mem_toList_iff.1; repeat (first | exact List.Mem.head _ | apply List.Mem.tail))
            rw [Array.getD_eq_getD_getElem?] at e77
            unfold Oper.wp
            simp only [execOp, Act.eval, Array.getD_eq_getD_getElem?, e77]
            go_simp
            exact ⟨_, rfl, rfl, Below.refl _ _⟩
          · intro a w1 hb hs hr
            have e3 : a.tmps.getD 3 undef = .pointer (some ⟨w.heap.size, 0, none⟩) := hs 3 (by decide)
            rw [Array.getD_eq_getD_getElem?] at e3
            unfold Oper.wp
            simp only [execOp, Act.eval, Array.getD_eq_getD_getElem?, e3]
            go_simp
            exact ⟨_, rfl, rfl, Below.refl _ _⟩
          · intro a w1 hb hs hr
            have e79 : a.tmps.getD 79 undef = .pointer (some ⟨w.heap.size, 3, none⟩) := hr 79 (by decide) (by apply Array.mem_toList_iff.1; repeat (first | exact List.Mem.head _ | apply List.Mem.tail))
            have cc : w1.cell? ⟨w.heap.size, 3, none⟩ = some (.int .i64 t) := (hb.cell (p := ⟨w.heap.size, 3, none⟩) hlt).trans p3
            rw [Array.getD_eq_getD_getElem?] at e79
            unfold Oper.wp
            simp only [execOp, Act.eval, Array.getD_eq_getD_getElem?, e79]
            go_simp
            exact ⟨_, rfl, rfl, Below.refl _ _⟩
          · intro a w1 hb hs hr
            have e80 : a.tmps.getD 80 undef = .int .i64 t := hr 80 (by decide) (by apply Array.mem_toList_iff.1; repeat (first | exact List.Mem.head _ | apply List.Mem.tail))
            rw [Array.getD_eq_getD_getElem?] at e80
            unfold Oper.wp
            simp only [execOp, Act.eval, Array.getD_eq_getD_getElem?, e80]
            go_simp
            exact ⟨_, rfl, ⟨w1.heap.size, rfl, by simp, by rw [(Blk.new w1 3 _).cell]; rfl⟩, (Below.refl _ _).alloc (Nat.le_refl _) _⟩
          · intro a w1 hb hs hr
            have e81 : ∃ g, a.tmps.getD 81 undef = .slice (some ⟨g, 0, none⟩) 1 1 ∧ g < w1.heap.size ∧ w1.cell? ⟨g, 0, none⟩ = some (.int .i64 t) := hr 81 (by decide) (by apply Array.mem_toList_iff.1; repeat (first | exact List.Mem.head _ | apply List.Mem.tail))
            obtain ⟨g, e81', hg, g0⟩ := e81
            rw [Array.getD_eq_getD_getElem?] at e81'
            unfold Oper.wp
            simp only [execOp, Act.eval, Array.getD_eq_getD_getElem?, e81']
            go_simp
            refine (DT.out g w1 hg g0 (HE9.out.below hb (Nat.le_refl _)).pow).mono ?_
            rintro e w' ⟨rfl, hb'⟩
            exact ⟨_, rfl, rfl, hb'⟩
          · intro a w1 hb hs hr
            have e78 : a.tmps.getD 78 undef = .string ((((⟨#[102, 108, 97, 103, 32]⟩ ++ SF) ++ ⟨#[32, 112, 101, 101, 114, 32]⟩) ++ SP) ++ ⟨#[32, 116, 97, 103, 32]⟩) := hr 78 (by decide) (by apply Array.mem_toList_iff.1; repeat (first | exact List.Mem.head _ | apply List.Mem.tail))
            have e82 : a.tmps.getD 82 undef = .string ST := hr 82 (by decide) (by apply Array.mem_toList_iff.1; repeat (first | exact List.Mem.head _ | apply List.Mem.tail))
            rw [Array.getD_eq_getD_getElem?] at e78
            rw [Array.getD_eq_getD_getElem?] at e82
            unfold Oper.wp
            simp only [execOp, Act.eval, Array.getD_eq_getD_getElem?, e78, e82]
            go_simp
            exact ⟨_, rfl, rfl, Below.refl _ _⟩
          · intro a w1 hb hs hr
            have e83 : a.tmps.getD 83 undef = .string (((((⟨#[102, 108, 97, 103, 32]⟩ ++ SF) ++ ⟨#[32, 112, 101, 101, 114, 32]⟩) ++ SP) ++ ⟨#[32, 116, 97, 103, 32]⟩) ++ ST) := hr 83 (by decide) (by apply Array.mem_toList_iff.1; repeat (first | exact List.Mem.head _ | apply List.Mem.tail))
            rw [Array.getD_eq_getD_getElem?] at e83
            unfold Oper.wp
            simp only [execOp, Act.eval, Array.getD_eq_getD_getElem?, e83]
            go_simp
            exact ⟨_, rfl, rfl, Below.refl _ _⟩
      by_cases k14 : k = 14
      · subst k14
        have FE := hide (HSS.out.symm.trans F5.out)
        have m0 : ¬ 9223372036854775807 < 5 + SF.size := by omega
        have m58 : ¬ 9223372036854775807 < 5 + SF.size + 6 := by omega
        have m121 : ¬ 9223372036854775807 < 5 + SF.size + 6 + SP.size := by omega
        have m195 : ¬ 9223372036854775807 < 5 + SF.size + 6 + SP.size + 5 := by omega
        have m273 : ¬ 9223372036854775807 < 5 + SF.size + 6 + SP.size + 5 + ST.size := by omega
        go_wp2_with fail
        clear hlt
        have hlt := hlt9
        let R : Nat → Value → World → Prop := fun sl u w1 => match sl with
          | 4 => u = .string (((((⟨#[102, 108, 97, 103, 32]⟩ ++ SF) ++ ⟨#[32, 112, 101, 101, 114, 32]⟩) ++ SP) ++ ⟨#[32, 116, 97, 103, 32]⟩) ++ ST)
          | 68 => u = .int .i64 fz
          | 69 => ∃ g, u = .slice (some ⟨g, 0, none⟩) 1 1 ∧ g < w1.heap.size ∧ w1.cell? ⟨g, 0, none⟩ = some (.int .i64 fz)
          | 70 => u = .string SF
          | 71 => u = .string (⟨#[102, 108, 97, 103, 32]⟩ ++ SF)
          | 72 => u = .string ((⟨#[102, 108, 97, 103, 32]⟩ ++ SF) ++ ⟨#[32, 112, 101, 101, 114, 32]⟩)
          | 73 => u = .pointer (some ⟨w.heap.size, 2, none⟩)
          | 74 => u = .int .i64 p
          | 75 => ∃ g, u = .slice (some ⟨g, 0, none⟩) 1 1 ∧ g < w1.heap.size ∧ w1.cell? ⟨g, 0, none⟩ = some (.int .i64 p)
          | 76 => u = .string SP
          | 77 => u = .string (((⟨#[102, 108, 97, 103, 32]⟩ ++ SF) ++ ⟨#[32, 112, 101, 101, 114, 32]⟩) ++ SP)
          | 78 => u = .string ((((⟨#[102, 108, 97, 103, 32]⟩ ++ SF) ++ ⟨#[32, 112, 101, 101, 114, 32]⟩) ++ SP) ++ ⟨#[32, 116, 97, 103, 32]⟩)
          | 79 => u = .pointer (some ⟨w.heap.size, 3, none⟩)
          | 80 => u = .int .i64 t
          | 81 => ∃ g, u = .slice (some ⟨g, 0, none⟩) 1 1 ∧ g < w1.heap.size ∧ w1.cell? ⟨g, 0, none⟩ = some (.int .i64 t)
          | 82 => u = .string ST
          | 83 => u = .string (((((⟨#[102, 108, 97, 103, 32]⟩ ++ SF) ++ ⟨#[32, 112, 101, 101, 114, 32]⟩) ++ SP) ++ ⟨#[32, 116, 97, 103, 32]⟩) ++ ST)
          | _ => True
        refine wp_region_rel R (by kernel_rfl) (by kernel_rfl) (by kernel_rfl) ?mono14 ?step14 ?fin14
        case mono14 =>
          intro sl u w1 w2 h hb
          match sl with
          | 69 | 75 | 81 =>
            obtain ⟨g, h1, h2, g0⟩ := h
            exact ⟨g, h1, Nat.lt_of_lt_of_le h2 hb.size, (hb.cell (p := ⟨g, 0, none⟩) h2).trans g0⟩
          | 0 | 1 | 2 | 3 | 4 | 5 | 6 | 7 | 8 | 9 | 10 | 11 | 12 | 13 | 14 | 15 | 16 | 17 | 18 | 19 | 20 | 21 | 22 | 23 | 24 | 25 | 26 | 27 | 28 | 29 | 30 | 31 | 32 | 33 | 34 | 35 | 36 | 37 | 38 | 39 | 40 | 41 | 42 | 43 | 44 | 45 | 46 | 47 | 48 | 49 | 50 | 51 | 52 | 53 | 54 | 55 | 56 | 57 | 58 | 59 | 60 | 61 | 62 | 63 | 64 | 65 | 66 | 67 | 68 | 70 | 71 | 72 | 73 | 74 | 76 | 77 | 78 | 79 | 80 | 82 | 83 | _ + 84 => exact h
        case fin14 =>
          intro ff w8 hb hr
          have e4 : ff 4 = .string (((((⟨#[102, 108, 97, 103, 32]⟩ ++ SF) ++ ⟨#[32, 112, 101, 101, 114, 32]⟩) ++ SP) ++ ⟨#[32, 116, 97, 103, 32]⟩) ++ ST) := hr 4 (by decide)
          have HB8 := hide (HB9.out.trans (hb.mono HB9.out.size))
          clear hr hb
          simp only [putAll, slotsOf, List.filterMap_cons, List.filterMap_nil, List.foldl_cons, List.foldl_nil, Act.put, e4]
          simp only [List.setIfInBounds_toArray, List.set_cons_succ, List.set_cons_zero]
          go_wp2_with fail
          go_ret
          exact ⟨by rw [FE.out]; rfl, HB8.out⟩
        case step14 =>
          intro o ho
          simp only [List.mem_cons, List.not_mem_nil, or_false] at ho
          rcases ho with rfl | rfl | rfl | rfl | rfl | rfl | rfl | rfl | rfl | rfl | rfl | rfl | rfl | rfl | rfl | rfl | rfl
          · intro a w1 hb hs hr
            have e5 : a.tmps.getD 5 undef = .int .i64 fz := (hs 5 (by decide)).trans (congrArg (Value.int .i64) hfz)
            rw [Array.getD_eq_getD_getElem?] at e5
            unfold Oper.wp
            simp only [execOp, Act.eval, Array.getD_eq_getD_getElem?, e5]
            go_simp
            exact ⟨_, rfl, rfl, Below.refl _ _⟩
          · intro a w1 hb hs hr
            have e68 : a.tmps.getD 68 undef = .int .i64 fz := hr 68 (by decide) (by apply Array.mem_toList_iff.1; repeat (first | exact List.Mem.head _ | apply List.Mem.tail))
            rw [Array.getD_eq_getD_getElem?] at e68
            unfold Oper.wp
            simp only [execOp, Act.eval, Array.getD_eq_getD_getElem?, e68]
            go_simp
            exact ⟨_, rfl, ⟨w1.heap.size, rfl, by simp, by rw [(Blk.new w1 3 _).cell]; rfl⟩, (Below.refl _ _).alloc (Nat.le_refl _) _⟩
          · intro a w1 hb hs hr
            have e69 : ∃ g, a.tmps.getD 69 undef = .slice (some ⟨g, 0, none⟩) 1 1 ∧ g < w1.heap.size ∧ w1.cell? ⟨g, 0, none⟩ = some (.int .i64 fz) := hr 69 (by decide) (by apply Array.mem_toList_iff.1; repeat (first | exact List.Mem.head _ | apply List.Mem.tail))
            obtain ⟨g, e69', hg, g0⟩ := e69
            rw [Array.getD_eq_getD_getElem?] at e69'
            unfold Oper.wp
            simp only [execOp, Act.eval, Array.getD_eq_getD_getElem?, e69']
            go_simp
            refine (DFz.out g w1 hg g0 (HE9.out.below hb (Nat.le_refl _)).pow).mono ?_
            rintro e w' ⟨rfl, hb'⟩
            exact ⟨_, rfl, rfl, hb'⟩
          · intro a w1 hb hs hr
            have e70 : a.tmps.getD 70 undef = .string SF := hr 70 (by decide) (by apply Array.mem_toList_iff.1; repeat (first | exact List.Mem.head _ | apply List.Mem.tail))
            rw [Array.getD_eq_getD_getElem?] at e70
            unfold Oper.wp
            simp only [execOp, Act.eval, Array.getD_eq_getD_getElem?, e70]
            go_simp
            exact ⟨_, rfl, rfl, Below.refl _ _⟩
          · intro a w1 hb hs hr
            have e71 : a.tmps.getD 71 undef = .string (⟨#[102, 108, 97, 103, 32]⟩ ++ SF) := hr 71 (by decide) (by apply Array.mem_toList_iff.1; repeat (first | exact List.Mem.head _ | apply List.Mem.tail))
            rw [Array.getD_eq_getD_getElem?] at e71
            unfold Oper.wp
            simp only [execOp, Act.eval, Array.getD_eq_getD_getElem?, e71]
            go_simp
            exact ⟨_, rfl, rfl, Below.refl _ _⟩
          · intro a w1 hb hs hr
            have e3 : a.tmps.getD 3 undef = .pointer (some ⟨w.heap.size, 0, none⟩) := hs 3 (by decide)
            rw [Array.getD_eq_getD_getElem?] at e3
            unfold Oper.wp
            simp only [execOp, Act.eval, Array.getD_eq_getD_getElem?, e3]
            go_simp
            exact ⟨_, rfl, rfl, Below.refl _ _⟩
          · intro a w1 hb hs hr
            have e73 : a.tmps.getD 73 undef = .pointer (some ⟨w.heap.size, 2, none⟩) := hr 73 (by decide) (by apply Array.mem_toList_iff.1; repeat (first | exact List.Mem.head _ | apply List.Mem.tail))
            have cc : w1.cell? ⟨w.heap.size, 2, none⟩ = some (.int .i64 p) := (hb.cell (p := ⟨w.heap.size, 2, none⟩) hlt).trans p2
            rw [Array.getD_eq_getD_getElem?] at e73
            unfold Oper.wp
            simp only [execOp, Act.eval, Array.getD_eq_getD_getElem?, e73]
            go_simp
            exact ⟨_, rfl, rfl, Below.refl _ _⟩
          · intro a w1 hb hs hr
            have e74 : a.tmps.getD 74 undef = .int .i64 p := hr 74 (by decide) (by apply Array.mem_toList_iff.1; repeat (first | exact List.Mem.head _ | apply List.Mem.tail))
            rw [Array.getD_eq_getD_getElem?] at e74
            unfold Oper.wp
            simp only [execOp, Act.eval, Array.getD_eq_getD_getElem?, e74]
            go_simp
            exact ⟨_, rfl, ⟨w1.heap.size, rfl, by simp, by rw [(Blk.new w1 3 _).cell]; rfl⟩, (Below.refl _ _).alloc (Nat.le_refl _) _⟩
          · intro a w1 hb hs hr
            have e75 : ∃ g, a.tmps.getD 75 undef = .slice (some ⟨g, 0, none⟩) 1 1 ∧ g < w1.heap.size ∧ w1.cell? ⟨g, 0, none⟩ = some (.int .i64 p) := hr 75 (by decide) (by apply Array.mem_toList_iff.1; repeat (first | exact List.Mem.head _ | apply List.Mem.tail))
            obtain ⟨g, e75', hg, g0⟩ := e75
            rw [Array.getD_eq_getD_getElem?] at e75'
            unfold Oper.wp
            simp only [execOp, Act.eval, Array.getD_eq_getD_getElem?, e75']
            go_simp
            refine (DP.out g w1 hg g0 (HE9.out.below hb (Nat.le_refl _)).pow).mono ?_
            rintro e w' ⟨rfl, hb'⟩
            exact ⟨_, rfl, rfl, hb'⟩
          · intro a w1 hb hs hr
            have e72 : a.tmps.getD 72 undef = .string ((⟨#[102, 108, 97, 103, 32]⟩ ++ SF) ++ ⟨#[32, 112, 101, 101, 114, 32]⟩) := hr 72 (by decide) (by apply Array.mem_toList_iff.1; repeat (first | exact List.Mem.head _ | apply List.Mem.tail))
            have e76 : a.tmps.getD 76 undef = .string SP := hr 76 (by decide) (by apply Array.mem_toList_iff.1; repeat (first | exact List.Mem.head _ | apply List.Mem.tail))
            rw [Array.getD_eq_getD_getElem?] at e72
            rw [Array.getD_eq_getD_getElem?] at e76
            unfold Oper.wp
            simp only [execOp, Act.eval, Array.getD_eq_getD_getElem?, e72, e76]
            go_simp
            exact ⟨_, rfl, rfl, Below.refl _ _⟩
          · intro a w1 hb hs hr
            have e77 : a.tmps.getD 77 undef = .string (((⟨#[102, 108, 97, 103, 32]⟩ ++ SF) ++ ⟨#[32, 112, 101, 101, 114, 32]⟩) ++ SP) := hr 77 (by decide) (by apply Array.mem_toList_iff.1; repeat (first | exact List.Mem.head _ | apply List.Mem.tail))
            rw [Array.getD_eq_getD_getElem?] at e77
            unfold Oper.wp
            simp only [execOp, Act.eval, Array.getD_eq_getD_getElem?, e77]
            go_simp
            exact ⟨_, rfl, rfl, Below.refl _ _⟩
          · intro a w1 hb hs hr
            have e3 : a.tmps.getD 3 undef = .pointer (some ⟨w.heap.size, 0, none⟩) := hs 3 (by decide)
            rw [Array.getD_eq_getD_getElem?] at e3
            unfold Oper.wp
            simp only [execOp, Act.eval, Array.getD_eq_getD_getElem?, e3]
            go_simp
            exact ⟨_, rfl, rfl, Below.refl _ _⟩
          · intro a w1 hb hs hr
            have e79 : a.tmps.getD 79 undef = .pointer (some ⟨w.heap.size, 3, none⟩) := hr 79 (by decide) (by apply Array.mem_toList_iff.1; repeat (first | exact List.Mem.head _ | apply List.Mem.tail))
            have cc : w1.cell? ⟨w.heap.size, 3, none⟩ = some (.int .i64 t) := (hb.cell (p := ⟨w.heap.size, 3, none⟩) hlt).trans p3
            rw [Array.getD_eq_getD_getElem?] at e79
            unfold Oper.wp
            simp only [execOp, Act.eval, Array.getD_eq_getD_getElem?, e79]
            go_simp
            exact ⟨_, rfl, rfl, Below.refl _ _⟩
          · intro a w1 hb hs hr
            have e80 : a.tmps.getD 80 undef = .int .i64 t := hr 80 (by decide) (by apply Array.mem_toList_iff.1; repeat (first | exact List.Mem.head _ | apply List.Mem.tail))
            rw [Array.getD_eq_getD_getElem?] at e80
            unfold Oper.wp
            simp only [execOp, Act.eval, Array.getD_eq_getD_getElem?, e80]
            go_simp
            exact ⟨_, rfl, ⟨w1.heap.size, rfl, by simp, by rw [(Blk.new w1 3 _).cell]; rfl⟩, (Below.refl _ _).alloc (Nat.le_refl _) _⟩
          · intro a w1 hb hs hr
            have e81 : ∃ g, a.tmps.getD 81 undef = .slice (some ⟨g, 0, none⟩) 1 1 ∧ g < w1.heap.size ∧ w1.cell? ⟨g, 0, none⟩ = some (.int .i64 t) := hr 81 (by decide) (by apply Array.mem_toList_iff.1; repeat (first | exact List.Mem.head _ | apply List.Mem.tail))
            obtain ⟨g, e81', hg, g0⟩ := e81
            rw [Array.getD_eq_getD_getElem?] at e81'
            unfold Oper.wp
            simp only [execOp, Act.eval, Array.getD_eq_getD_getElem?, e81']
            go_simp
            refine (DT.out g w1 hg g0 (HE9.out.below hb (Nat.le_refl _)).pow).mono ?_
            rintro e w' ⟨rfl, hb'⟩
            exact ⟨_, rfl, rfl, hb'⟩
          · intro a w1 hb hs hr
            have e78 : a.tmps.getD 78 undef = .string ((((⟨#[102, 108, 97, 103, 32]⟩ ++ SF) ++ ⟨#[32, 112, 101, 101, 114, 32]⟩) ++ SP) ++ ⟨#[32, 116, 97, 103, 32]⟩) := hr 78 (by decide) (by apply Array.mem_toList_iff.1; repeat (first | exact List.Mem.head _ | apply List.Mem.tail))
            have e82 : a.tmps.getD 82 undef = .string ST := hr 82 (by decide) (by apply Array.mem_toList_iff.1; repeat (first | exact List.Mem.head _ | apply List.Mem.tail))
            rw [Array.getD_eq_getD_getElem?] at e78
            rw [Array.getD_eq_getD_getElem?] at e82
            unfold Oper.wp
            simp only [execOp, Act.eval, Array.getD_eq_getD_getElem?, e78, e82]
            go_simp
            exact ⟨_, rfl, rfl, Below.refl _ _⟩
          · intro a w1 hb hs hr
            have e83 : a.tmps.getD 83 undef = .string (((((⟨#[102, 108, 97, 103, 32]⟩ ++ SF) ++ ⟨#[32, 112, 101, 101, 114, 32]⟩) ++ SP) ++ ⟨#[32, 116, 97, 103, 32]⟩) ++ ST) := hr 83 (by decide) (by apply Array.mem_toList_iff.1; repeat (first | exact List.Mem.head _ | apply List.Mem.tail))
            rw [Array.getD_eq_getD_getElem?] at e83
            unfold Oper.wp
            simp only [execOp, Act.eval, Array.getD_eq_getD_getElem?, e83]
            go_simp
            exact ⟨_, rfl, rfl, Below.refl _ _⟩
      by_cases k16 : k = 16
      · subst k16
        have FE := hide (HSS.out.symm.trans F6.out)
        have m0 : ¬ 9223372036854775807 < 6 + SV.size := by omega
        go_wp2_with fail
        have hbn := (Below.refl w9.heap.size w9).alloc (Nat.le_refl _) (.cells #[.int .i64 v] 2)
        refine (DV.out w9.heap.size _ (by simp) ((Blk.new w9 2 #[.int .i64 v]).cell 0) (HE9.out.below hbn (Nat.le_refl _)).pow).mono ?_
        rintro e w5 ⟨rfl, hb5⟩
        have HB5 := hide (HB9.out.trans ((hbn.trans (hb5.mono hbn.size)).mono HB9.out.size))
        clear hb5 hbn
        go_wp2_with fail
        go_ret
        exact ⟨by rw [FE.out]; rfl, HB5.out⟩
      by_cases k17 : k = 17
      · subst k17
        have FE := hide (HSS.out.symm.trans F6.out)
        have m0 : ¬ 9223372036854775807 < 6 + SV.size := by omega
        go_wp2_with fail
        have hbn := (Below.refl w9.heap.size w9).alloc (Nat.le_refl _) (.cells #[.int .i64 v] 2)
        refine (DV.out w9.heap.size _ (by simp) ((Blk.new w9 2 #[.int .i64 v]).cell 0) (HE9.out.below hbn (Nat.le_refl _)).pow).mono ?_
        rintro e w5 ⟨rfl, hb5⟩
        have HB5 := hide (HB9.out.trans ((hbn.trans (hb5.mono hbn.size)).mono HB9.out.size))
        clear hb5 hbn
        go_wp2_with fail
        go_ret
        exact ⟨by rw [FE.out]; rfl, HB5.out⟩
      by_cases k18 : k = 18
      · subst k18
        have FE := hide (HSS.out.symm.trans F6.out)
        have m0 : ¬ 9223372036854775807 < 6 + SV.size := by omega
        go_wp2_with fail
        have hbn := (Below.refl w9.heap.size w9).alloc (Nat.le_refl _) (.cells #[.int .i64 v] 2)
        refine (DV.out w9.heap.size _ (by simp) ((Blk.new w9 2 #[.int .i64 v]).cell 0) (HE9.out.below hbn (Nat.le_refl _)).pow).mono ?_
        rintro e w5 ⟨rfl, hb5⟩
        have HB5 := hide (HB9.out.trans ((hbn.trans (hb5.mono hbn.size)).mono HB9.out.size))
        clear hb5 hbn
        go_wp2_with fail
        go_ret
        exact ⟨by rw [FE.out]; rfl, HB5.out⟩
      by_cases k19 : k = 19
      · subst k19
        have FE := hide (HSS.out.symm.trans F7.out)
        go_wp2_with fail
        refine (VA.out _ HR9.out HE9.out).mono ?_
        rintro e w5 ⟨rfl, hb5⟩
        have HB5 := hide (HB9.out.trans (hb5.mono HB9.out.size))
        clear hb5
        go_wp2_with fail
        go_ret
        exact ⟨by rw [FE.out]; rfl, HB5.out⟩
      by_cases k20 : k = 20
      · subst k20
        have FE := hide (HSS.out.symm.trans F8.out)
        have m0 : ¬ 9223372036854775807 < 5 + SC.size := by omega
        go_wp2_with fail
        have hbn := (Below.refl w9.heap.size w9).alloc (Nat.le_refl _) (.cells #[.int .i64 c] 3)
        refine (DC.out w9.heap.size _ (by simp) ((Blk.new w9 3 #[.int .i64 c]).cell 0) (HE9.out.below hbn (Nat.le_refl _)).pow).mono ?_
        rintro e w5 ⟨rfl, hb5⟩
        have HB5 := hide (HB9.out.trans ((hbn.trans (hb5.mono hbn.size)).mono HB9.out.size))
        clear hb5 hbn
        go_wp2_with fail
        go_ret
        exact ⟨by rw [FE.out]; rfl, HB5.out⟩
      by_cases k21 : k = 21
      · subst k21
        have FE := hide (HSS.out.symm.trans F8.out)
        have m0 : ¬ 9223372036854775807 < 5 + SC.size := by omega
        go_wp2_with fail
        have hbn := (Below.refl w9.heap.size w9).alloc (Nat.le_refl _) (.cells #[.int .i64 c] 3)
        refine (DC.out w9.heap.size _ (by simp) ((Blk.new w9 3 #[.int .i64 c]).cell 0) (HE9.out.below hbn (Nat.le_refl _)).pow).mono ?_
        rintro e w5 ⟨rfl, hb5⟩
        have HB5 := hide (HB9.out.trans ((hbn.trans (hb5.mono hbn.size)).mono HB9.out.size))
        clear hb5 hbn
        go_wp2_with fail
        go_ret
        exact ⟨by rw [FE.out]; rfl, HB5.out⟩
      have FE : Hid (S = ⟨#[]⟩) := hide (HSS.out.symm.trans (by rw [cls_0 k4 k5 k6 k7 k8 k9 k10 k11 k12 k13 k14 k16 k17 k18 k19 k20 k21]; exact F0.out))
      have e4 : (k == 4) = false := by simpa using k4
      have e5 : (k == 5) = false := by simpa using k5
      have e7 : (k == 7) = false := by simpa using k7
      have e6 : (k == 6) = false := by simpa using k6
      have e8 : (k == 8) = false := by simpa using k8
      have e9 : (k == 9) = false := by simpa using k9
      have e10 : (k == 10) = false := by simpa using k10
      have e11 : (k == 11) = false := by simpa using k11
      have e12 : (k == 12) = false := by simpa using k12
      have e13 : (k == 13) = false := by simpa using k13
      have e14 : (k == 14) = false := by simpa using k14
      have e16 : (k == 16) = false := by simpa using k16
      have e17 : (k == 17) = false := by simpa using k17
      have e18 : (k == 18) = false := by simpa using k18
      have e19 : (k == 19) = false := by simpa using k19
      have e20 : (k == 20) = false := by simpa using k20
      have e21 : (k == 21) = false := by simpa using k21
      clear k4 k5 k7 k6 k8 k9 k10 k11 k12 k13 k14 k16 k17 k18 k19 k20 k21
      go_wp2_with fail
      go_ret
      exact ⟨by rw [FE.out]; rfl, HB9.out⟩
    case step =>
      intro o ho
      simp only [List.mem_cons, List.not_mem_nil, or_false] at ho
      rcases ho with rfl | rfl | rfl | rfl | rfl | rfl | rfl | rfl | rfl | rfl | rfl | rfl | rfl | rfl | rfl | rfl | rfl | rfl
      · intro a w1 hb hs hr
        have e3 : a.tmps.getD 3 undef = .pointer (some ⟨w.heap.size, 0, none⟩) := hs 3 (by decide)
        rw [Array.getD_eq_getD_getElem?] at e3
        unfold Oper.wp
        simp only [execOp, Act.eval, Array.getD_eq_getD_getElem?, e3]
        go_simp
        exact ⟨_, rfl, rfl, Below.refl _ _⟩
      · intro a w1 hb hs hr
        have e9 : a.tmps.getD 9 undef = .pointer (some ⟨w.heap.size, 1, none⟩) := hr 9 (by decide) (by apply Array.mem_toList_iff.1; repeat (first | exact List.Mem.head _ | apply List.Mem.tail))
        have cc : w1.cell? ⟨w.heap.size, 1, none⟩ = some (.int .i64 v) := (hb.cell (p := ⟨w.heap.size, 1, none⟩) hlt).trans q1
        rw [Array.getD_eq_getD_getElem?] at e9
        unfold Oper.wp
        simp only [execOp, Act.eval, Array.getD_eq_getD_getElem?, e9]
        go_simp
        exact ⟨_, rfl, rfl, Below.refl _ _⟩
      · intro a w1 hb hs hr
        have e10 : a.tmps.getD 10 undef = .int .i64 v := hr 10 (by decide) (by apply Array.mem_toList_iff.1; repeat (first | exact List.Mem.head _ | apply List.Mem.tail))
        rw [Array.getD_eq_getD_getElem?] at e10
        unfold Oper.wp
        simp only [execOp, Act.eval, Array.getD_eq_getD_getElem?, e10]
        go_simp
        exact ⟨_, rfl, ⟨w1.heap.size, rfl, by simp, by rw [(Blk.new w1 2 _).cell]; rfl⟩, (Below.refl _ _).alloc (Nat.le_refl _) _⟩
      · intro a w1 hb hs hr
        have e11 : ∃ g, a.tmps.getD 11 undef = .slice (some ⟨g, 0, none⟩) 1 1 ∧ g < w1.heap.size ∧ w1.cell? ⟨g, 0, none⟩ = some (.int .i64 v) := hr 11 (by decide) (by apply Array.mem_toList_iff.1; repeat (first | exact List.Mem.head _ | apply List.Mem.tail))
        obtain ⟨g, e11', hg, g0⟩ := e11
        rw [Array.getD_eq_getD_getElem?] at e11'
        unfold Oper.wp
        simp only [execOp, Act.eval, Array.getD_eq_getD_getElem?, e11']
        go_simp
        refine (DV.out g w1 hg g0 (HE.out.below hb (Nat.le_refl _)).pow).mono ?_
        rintro e w' ⟨rfl, hb'⟩
        exact ⟨_, rfl, rfl, hb'⟩
      · intro a w1 hb hs hr
        have e12 : a.tmps.getD 12 undef = .string SV := hr 12 (by decide) (by apply Array.mem_toList_iff.1; repeat (first | exact List.Mem.head _ | apply List.Mem.tail))
        rw [Array.getD_eq_getD_getElem?] at e12
        unfold Oper.wp
        simp only [execOp, Act.eval, Array.getD_eq_getD_getElem?, e12]
        go_simp
        exact ⟨_, rfl, rfl, Below.refl _ _⟩
      · intro a w1 hb hs hr
        have e13 : a.tmps.getD 13 undef = .string (⟨#[118, 97, 108, 117, 101, 32]⟩ ++ SV) := hr 13 (by decide) (by apply Array.mem_toList_iff.1; repeat (first | exact List.Mem.head _ | apply List.Mem.tail))
        rw [Array.getD_eq_getD_getElem?] at e13
        unfold Oper.wp
        simp only [execOp, Act.eval, Array.getD_eq_getD_getElem?, e13]
        go_simp
        exact ⟨_, rfl, rfl, Below.refl _ _⟩
      · intro a w1 hb hs hr
        have e3 : a.tmps.getD 3 undef = .pointer (some ⟨w.heap.size, 0, none⟩) := hs 3 (by decide)
        rw [Array.getD_eq_getD_getElem?] at e3
        unfold Oper.wp
        simp only [execOp, Act.eval, Array.getD_eq_getD_getElem?, e3]
        go_simp
        exact ⟨_, rfl, rfl, Below.refl _ _⟩
      · intro a w1 hb hs hr
        have e15 : a.tmps.getD 15 undef = .pointer (some ⟨w.heap.size, 2, none⟩) := hr 15 (by decide) (by apply Array.mem_toList_iff.1; repeat (first | exact List.Mem.head _ | apply List.Mem.tail))
        have cc : w1.cell? ⟨w.heap.size, 2, none⟩ = some (.int .i64 p) := (hb.cell (p := ⟨w.heap.size, 2, none⟩) hlt).trans q2
        rw [Array.getD_eq_getD_getElem?] at e15
        unfold Oper.wp
        simp only [execOp, Act.eval, Array.getD_eq_getD_getElem?, e15]
        go_simp
        exact ⟨_, rfl, rfl, Below.refl _ _⟩
      · intro a w1 hb hs hr
        have e16 : a.tmps.getD 16 undef = .int .i64 p := hr 16 (by decide) (by apply Array.mem_toList_iff.1; repeat (first | exact List.Mem.head _ | apply List.Mem.tail))
        rw [Array.getD_eq_getD_getElem?] at e16
        unfold Oper.wp
        simp only [execOp, Act.eval, Array.getD_eq_getD_getElem?, e16]
        go_simp
        exact ⟨_, rfl, ⟨w1.heap.size, rfl, by simp, by rw [(Blk.new w1 3 _).cell]; rfl⟩, (Below.refl _ _).alloc (Nat.le_refl _) _⟩
      · intro a w1 hb hs hr
        have e17 : ∃ g, a.tmps.getD 17 undef = .slice (some ⟨g, 0, none⟩) 1 1 ∧ g < w1.heap.size ∧ w1.cell? ⟨g, 0, none⟩ = some (.int .i64 p) := hr 17 (by decide) (by apply Array.mem_toList_iff.1; repeat (first | exact List.Mem.head _ | apply List.Mem.tail))
        obtain ⟨g, e17', hg, g0⟩ := e17
        rw [Array.getD_eq_getD_getElem?] at e17'
        unfold Oper.wp
        simp only [execOp, Act.eval, Array.getD_eq_getD_getElem?, e17']
        go_simp
        refine (DP.out g w1 hg g0 (HE.out.below hb (Nat.le_refl _)).pow).mono ?_
        rintro e w' ⟨rfl, hb'⟩
        exact ⟨_, rfl, rfl, hb'⟩
      · intro a w1 hb hs hr
        have e14 : a.tmps.getD 14 undef = .string ((⟨#[118, 97, 108, 117, 101, 32]⟩ ++ SV) ++ ⟨#[32, 112, 101, 101, 114, 32]⟩) := hr 14 (by decide) (by apply Array.mem_toList_iff.1; repeat (first | exact List.Mem.head _ | apply List.Mem.tail))
        have e18 : a.tmps.getD 18 undef = .string SP := hr 18 (by decide) (by apply Array.mem_toList_iff.1; repeat (first | exact List.Mem.head _ | apply List.Mem.tail))
        rw [Array.getD_eq_getD_getElem?] at e14
        rw [Array.getD_eq_getD_getElem?] at e18
        unfold Oper.wp
        simp only [execOp, Act.eval, Array.getD_eq_getD_getElem?, e14, e18]
        go_simp
        exact ⟨_, rfl, rfl, Below.refl _ _⟩
      · intro a w1 hb hs hr
        have e19 : a.tmps.getD 19 undef = .string (((⟨#[118, 97, 108, 117, 101, 32]⟩ ++ SV) ++ ⟨#[32, 112, 101, 101, 114, 32]⟩) ++ SP) := hr 19 (by decide) (by apply Array.mem_toList_iff.1; repeat (first | exact List.Mem.head _ | apply List.Mem.tail))
        rw [Array.getD_eq_getD_getElem?] at e19
        unfold Oper.wp
        simp only [execOp, Act.eval, Array.getD_eq_getD_getElem?, e19]
        go_simp
        exact ⟨_, rfl, rfl, Below.refl _ _⟩
      · intro a w1 hb hs hr
        have e3 : a.tmps.getD 3 undef = .pointer (some ⟨w.heap.size, 0, none⟩) := hs 3 (by decide)
        rw [Array.getD_eq_getD_getElem?] at e3
        unfold Oper.wp
        simp only [execOp, Act.eval, Array.getD_eq_getD_getElem?, e3]
        go_simp
        exact ⟨_, rfl, rfl, Below.refl _ _⟩
      · intro a w1 hb hs hr
        have e21 : a.tmps.getD 21 undef = .pointer (some ⟨w.heap.size, 3, none⟩) := hr 21 (by decide) (by apply Array.mem_toList_iff.1; repeat (first | exact List.Mem.head _ | apply List.Mem.tail))
        have cc : w1.cell? ⟨w.heap.size, 3, none⟩ = some (.int .i64 t) := (hb.cell (p := ⟨w.heap.size, 3, none⟩) hlt).trans q3
        rw [Array.getD_eq_getD_getElem?] at e21
        unfold Oper.wp
        simp only [execOp, Act.eval, Array.getD_eq_getD_getElem?, e21]
        go_simp
        exact ⟨_, rfl, rfl, Below.refl _ _⟩
      · intro a w1 hb hs hr
        have e22 : a.tmps.getD 22 undef = .int .i64 t := hr 22 (by decide) (by apply Array.mem_toList_iff.1; repeat (first | exact List.Mem.head _ | apply List.Mem.tail))
        rw [Array.getD_eq_getD_getElem?] at e22
        unfold Oper.wp
        simp only [execOp, Act.eval, Array.getD_eq_getD_getElem?, e22]
        go_simp
        exact ⟨_, rfl, ⟨w1.heap.size, rfl, by simp, by rw [(Blk.new w1 3 _).cell]; rfl⟩, (Below.refl _ _).alloc (Nat.le_refl _) _⟩
      · intro a w1 hb hs hr
        have e23 : ∃ g, a.tmps.getD 23 undef = .slice (some ⟨g, 0, none⟩) 1 1 ∧ g < w1.heap.size ∧ w1.cell? ⟨g, 0, none⟩ = some (.int .i64 t) := hr 23 (by decide) (by apply Array.mem_toList_iff.1; repeat (first | exact List.Mem.head _ | apply List.Mem.tail))
        obtain ⟨g, e23', hg, g0⟩ := e23
        rw [Array.getD_eq_getD_getElem?] at e23'
        unfold Oper.wp
        simp only [execOp, Act.eval, Array.getD_eq_getD_getElem?, e23']
        go_simp
        refine (DT.out g w1 hg g0 (HE.out.below hb (Nat.le_refl _)).pow).mono ?_
        rintro e w' ⟨rfl, hb'⟩
        exact ⟨_, rfl, rfl, hb'⟩
      · intro a w1 hb hs hr
        have e20 : a.tmps.getD 20 undef = .string ((((⟨#[118, 97, 108, 117, 101, 32]⟩ ++ SV) ++ ⟨#[32, 112, 101, 101, 114, 32]⟩) ++ SP) ++ ⟨#[32, 116, 97, 103, 32]⟩) := hr 20 (by decide) (by apply Array.mem_toList_iff.1; repeat (first | exact List.Mem.head _ | apply List.Mem.tail))
        have e24 : a.tmps.getD 24 undef = .string ST := hr 24 (by decide) (by apply Array.mem_toList_iff.1; repeat (first | exact List.Mem.head _ | apply List.Mem.tail))
        rw [Array.getD_eq_getD_getElem?] at e20
        rw [Array.getD_eq_getD_getElem?] at e24
        unfold Oper.wp
        simp only [execOp, Act.eval, Array.getD_eq_getD_getElem?, e20, e24]
        go_simp
        exact ⟨_, rfl, rfl, Below.refl _ _⟩
      · intro a w1 hb hs hr
        have e25 : a.tmps.getD 25 undef = .string (((((⟨#[118, 97, 108, 117, 101, 32]⟩ ++ SV) ++ ⟨#[32, 112, 101, 101, 114, 32]⟩) ++ SP) ++ ⟨#[32, 116, 97, 103, 32]⟩) ++ ST) := hr 25 (by decide) (by apply Array.mem_toList_iff.1; repeat (first | exact List.Mem.head _ | apply List.Mem.tail))
        rw [Array.getD_eq_getD_getElem?] at e25
        unfold Oper.wp
        simp only [execOp, Act.eval, Array.getD_eq_getD_getElem?, e25]
        go_simp
        exact ⟨_, rfl, rfl, Below.refl _ _⟩
end Told
end Go.Proofs.YthcoelkpiflfeaaDoor
