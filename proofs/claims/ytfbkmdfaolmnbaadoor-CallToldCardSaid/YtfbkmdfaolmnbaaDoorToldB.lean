/- What a result tells: the reference's Told. -/
import Derived.Test.YtfbkmdfaolmnbaaDoorRows
import Derived.Test.YtfbkmdfaolmnbaaDoorRel
import Derived.Test.YtfbkmdfaolmnbaaDoorQuietBelow
import Derived.Test.YtfbkmdfaolmnbaaDoorToldV
import Derived.Deep.CutRange
import Derived.Deep.RegionWith
namespace Go.Proofs.YtfbkmdfaolmnbaaDoor
open Go.RowKit
open Go.Lib (itoa itoa_length_le)
set_option linter.unusedVariables false
set_option linter.unusedSimpArgs false
namespace Told
set_option maxRecDepth 100000 in
set_option maxHeartbeats 16000000 in
theorem told_b (k : Int) (x : Rs) (A : Option Addr) (cap : Nat) (w : World) (hok : x.ok) (hr : NRow w A x.row) (hl : x.row.length ≤ 1000) :
    Calls Tryd.prog 5 #[.int .u8 k, .agg #[.bool x.fl, .int .i64 x.v, .int .i64 x.p, .int .i64 x.t, .int .i64 x.q, .int .i64 x.i, .int .i64 x.c, .slice A x.row.length cap]] w fun e w' => e = .returned (.string (bytes (tT (cls k) x))) ∧ Below w.heap.size w w' := by
  obtain ⟨ov, op, ot, oq, oi, oc, orow⟩ := hok
  have E1 : bytes (tT 1 x) = (bytes [114, 101, 113, 32] ++ bytes (itoa x.q)) := by first | rfl | (simp only [bytes_app, tT, pollT, probeT, gotT, vT]; done) | (simp only [bytes_app, tT, pollT, probeT, gotT, vT]; congr 1; simp)
  have E2 : bytes (tT 2 x) = (((bytes [118, 97, 108, 117, 101, 32] ++ bytes (itoa x.v)) ++ bytes [32]) ++ (((bytes [112, 101, 101, 114, 32] ++ bytes (itoa x.p)) ++ bytes [32, 116, 97, 103, 32]) ++ bytes (itoa x.t))) := by first | rfl | (simp only [bytes_app, tT, pollT, probeT, gotT, vT]; done) | (simp only [bytes_app, tT, pollT, probeT, gotT, vT]; congr 1; simp)
  have E3 : bytes (tT 3 x) = (((((bytes [118, 97, 108, 117, 101, 32] ++ bytes (itoa x.v)) ++ bytes [32]) ++ (((bytes [112, 101, 101, 114, 32] ++ bytes (itoa x.p)) ++ bytes [32, 116, 97, 103, 32]) ++ bytes (itoa x.t))) ++ bytes [32]) ++ bytes (rowT x.row)) := by first | rfl | (simp only [bytes_app, tT, pollT, probeT, gotT, vT]; done) | (simp only [bytes_app, tT, pollT, probeT, gotT, vT]; congr 1; simp)
  have E4 : bytes (tT 4 x) = (((((((bytes [102, 108, 97, 103, 32] ++ bytes (itoa (fI x.fl))) ++ bytes [32, 105, 110, 100, 101, 120, 32]) ++ bytes (itoa x.i)) ++ bytes [32]) ++ (bytes [118, 97, 108, 117, 101, 32] ++ bytes (itoa x.v))) ++ bytes [32]) ++ (((bytes [112, 101, 101, 114, 32] ++ bytes (itoa x.p)) ++ bytes [32, 116, 97, 103, 32]) ++ bytes (itoa x.t))) := by first | rfl | (simp only [bytes_app, tT, pollT, probeT, gotT, vT]; done) | (simp only [bytes_app, tT, pollT, probeT, gotT, vT]; congr 1; simp)
  have E5 : bytes (tT 5 x) = (((bytes [102, 108, 97, 103, 32] ++ bytes (itoa (fI x.fl))) ++ bytes [32]) ++ (((bytes [112, 101, 101, 114, 32] ++ bytes (itoa x.p)) ++ bytes [32, 116, 97, 103, 32]) ++ bytes (itoa x.t))) := by first | rfl | (simp only [bytes_app, tT, pollT, probeT, gotT, vT]; done) | (simp only [bytes_app, tT, pollT, probeT, gotT, vT]; congr 1; simp)
  have E6 : bytes (tT 6 x) = (bytes [118, 97, 108, 117, 101, 32] ++ bytes (itoa x.v)) := by first | rfl | (simp only [bytes_app, tT, pollT, probeT, gotT, vT]; done) | (simp only [bytes_app, tT, pollT, probeT, gotT, vT]; congr 1; simp)
  have E7 : bytes (tT 7 x) = bytes (rowT x.row) := by first | rfl | (simp only [bytes_app, tT, pollT, probeT, gotT, vT]; done) | (simp only [bytes_app, tT, pollT, probeT, gotT, vT]; congr 1; simp)
  have E8 : bytes (tT 8 x) = (bytes [99, 111, 109, 109, 32] ++ bytes (itoa x.c)) := by first | rfl | (simp only [bytes_app, tT, pollT, probeT, gotT, vT]; done) | (simp only [bytes_app, tT, pollT, probeT, gotT, vT]; congr 1; simp)
  have hSF : (bytes (itoa (fI x.fl))).size = 1 := by cases x.fl <;> simp [fI, itoa0, itoa1, bytes_size]
  have HSF : Hid (bytes (itoa (fI x.fl)) = if x.fl = true then ⟨#[49]⟩ else ⟨#[48]⟩) := hide (by cases x.fl <;> simp [fI, itoa0, itoa1, bytes])
  have hSR : (bytes (rowT x.row)).size ≤ 24000 := by
    have := tlS_len orow
    rw [bytes_size, rowT, List.length_append]
    simp only [List.length_cons, List.length_nil]
    omega
  have lSV : (bytes (itoa x.v)).size ≤ 21 := by rw [bytes_size]; exact fit_len ov
  have lSP : (bytes (itoa x.p)).size ≤ 21 := by rw [bytes_size]; exact fit_len op
  have lST : (bytes (itoa x.t)).size ≤ 21 := by rw [bytes_size]; exact fit_len ot
  have lSQ : (bytes (itoa x.q)).size ≤ 21 := by rw [bytes_size]; exact fit_len oq
  have lSI : (bytes (itoa x.i)).size ≤ 21 := by rw [bytes_size]; exact fit_len oi
  have lSC : (bytes (itoa x.c)).size ≤ 21 := by rw [bytes_size]; exact fit_len oc
  have NV := hide (number05_b x.v ov.1 ov.2)
  have NP := hide (number16_b x.p op.1 op.2)
  have NT := hide (number16_b x.t ot.1 ot.2)
  have NQ := hide (number16_b x.q oq.1 oq.2)
  have NI := hide (number16_b x.i oi.1 oi.2)
  have NC := hide (number16_b x.c oc.1 oc.2)
  have NZ := hide (fun k => number05_b (x.row.getD k 0) (getD_fit orow k).1 (getD_fit orow k).2)
  have LZ := hide (fun k => fit_len (getD_fit orow k))
  have TS := hide (ts_s x.row)
  have TL := hide (fun k => tlS_len (fit_take orow k))
  have RF : Hid (bytes (rowT x.row) = bytes ([114, 111, 119] ++ tlS (x.row.take x.row.length))) := hide (by rw [List.take_length]; rfl)
  have TX : Hid (bytes (tT 0 x) = ⟨#[]⟩) := hide rfl
  generalize hS : bytes (tT (cls k) x) = S
  have HS := hide hS
  have G1 := hide E1
  have G2 := hide E2
  have G3 := hide E3
  have G4 := hide E4
  have G5 := hide E5
  have G6 := hide E6
  have G7 := hide E7
  have G8 := hide E8
  clear hS E1 E2 E3 E4 E5 E6 E7 E8 ov op ot oq oi oc orow
  obtain ⟨T, hT⟩ : ∃ T : Nat → ByteArray, T = fun n => bytes (tT n x) := ⟨_, rfl⟩
  have HT := hide (fun n => (congrFun hT n).symm)
  clear hT
  have F0 : Hid (T 0 = ⟨#[]⟩) := hide ((HT.out 0).symm.trans TX.out)
  have F1 : Hid (T 1 = (bytes [114, 101, 113, 32] ++ bytes (itoa x.q))) := hide ((HT.out 1).symm.trans G1.out)
  have F2 : Hid (T 2 = (((bytes [118, 97, 108, 117, 101, 32] ++ bytes (itoa x.v)) ++ bytes [32]) ++ (((bytes [112, 101, 101, 114, 32] ++ bytes (itoa x.p)) ++ bytes [32, 116, 97, 103, 32]) ++ bytes (itoa x.t)))) := hide ((HT.out 2).symm.trans G2.out)
  have F3 : Hid (T 3 = (((((bytes [118, 97, 108, 117, 101, 32] ++ bytes (itoa x.v)) ++ bytes [32]) ++ (((bytes [112, 101, 101, 114, 32] ++ bytes (itoa x.p)) ++ bytes [32, 116, 97, 103, 32]) ++ bytes (itoa x.t))) ++ bytes [32]) ++ bytes (rowT x.row))) := hide ((HT.out 3).symm.trans G3.out)
  have F4 : Hid (T 4 = (((((((bytes [102, 108, 97, 103, 32] ++ bytes (itoa (fI x.fl))) ++ bytes [32, 105, 110, 100, 101, 120, 32]) ++ bytes (itoa x.i)) ++ bytes [32]) ++ (bytes [118, 97, 108, 117, 101, 32] ++ bytes (itoa x.v))) ++ bytes [32]) ++ (((bytes [112, 101, 101, 114, 32] ++ bytes (itoa x.p)) ++ bytes [32, 116, 97, 103, 32]) ++ bytes (itoa x.t)))) := hide ((HT.out 4).symm.trans G4.out)
  have F5 : Hid (T 5 = (((bytes [102, 108, 97, 103, 32] ++ bytes (itoa (fI x.fl))) ++ bytes [32]) ++ (((bytes [112, 101, 101, 114, 32] ++ bytes (itoa x.p)) ++ bytes [32, 116, 97, 103, 32]) ++ bytes (itoa x.t)))) := hide ((HT.out 5).symm.trans G5.out)
  have F6 : Hid (T 6 = (bytes [118, 97, 108, 117, 101, 32] ++ bytes (itoa x.v))) := hide ((HT.out 6).symm.trans G6.out)
  have F7 : Hid (T 7 = bytes (rowT x.row)) := hide ((HT.out 7).symm.trans G7.out)
  have F8 : Hid (T 8 = (bytes [99, 111, 109, 109, 32] ++ bytes (itoa x.c))) := hide ((HT.out 8).symm.trans G8.out)
  have HSS : Hid (T (cls k) = S) := hide ((HT.out (cls k)).symm.trans HS.out)
  clear HS G1 G2 G3 G4 G5 G6 G7 G8 TX HT
  obtain ⟨fl, v, p, t, q, i, c, row⟩ := x
  simp only at *
  generalize bytes (itoa v) = SV at *
  generalize bytes (itoa p) = SP at *
  generalize bytes (itoa t) = ST at *
  generalize bytes (itoa q) = SQ at *
  generalize bytes (itoa i) = SI at *
  generalize bytes (itoa c) = SC at *
  generalize bytes (itoa (fI fl)) = SF at *
  generalize hSR2 : bytes (rowT row) = SR at *
  clear hSR2
  have bk := Blk.new w 24 #[.bool fl, .int .i64 v, .int .i64 p, .int .i64 t, .int .i64 q, .int .i64 i, .int .i64 c, .slice A row.length cap]
  have hb1 := (Below.refl w.heap.size w).alloc (Nat.le_refl _) (.cells #[.bool fl, .int .i64 v, .int .i64 p, .int .i64 t, .int .i64 q, .int .i64 i, .int .i64 c, .slice A row.length cap] 24)
  have hlt : w.heap.size < (w.alloc (.cells #[.bool fl, .int .i64 v, .int .i64 p, .int .i64 t, .int .i64 q, .int .i64 i, .int .i64 c, .slice A row.length cap] 24)).heap.size := by simp
  obtain ⟨W1, hW1⟩ : ∃ W1, w.alloc (.cells #[.bool fl, .int .i64 v, .int .i64 p, .int .i64 t, .int .i64 q, .int .i64 i, .int .i64 c, .slice A row.length cap] 24) = W1 := ⟨_, rfl⟩
  rw [hW1] at bk hb1 hlt
  have BK := hide bk
  have HB := hide hb1
  have HR := hide hr
  have hc := fun j => bk.cell j
  have q0 := hc 0
  have q1 := hc 1
  simp only [List.getElem?_toArray, List.getElem?_cons_zero, List.getElem?_cons_succ] at q0 q1
  clear bk hb1 hr hc
  have main : ∀ (b : Bool), fl = b → Calls Tryd.prog 5 #[.int .u8 k, .agg #[.bool fl, .int .i64 v, .int .i64 p, .int .i64 t, .int .i64 q, .int .i64 i, .int .i64 c, .slice A row.length cap]] w fun e w' => e = .returned (.string S) ∧ Below w.heap.size w w' := by
    intro b hfl
    have e4 : (if b = true then (⟨#[49]⟩ : ByteArray) else ⟨#[48]⟩) = SF := by rw [← hfl]; exact HSF.out.symm
    clear HSF
    subst hfl
    rcases fl with _ | _
    all_goals
      simp only [Bool.false_eq_true, if_false, if_true] at e4
      have e4' := hide e4
      clear e4
      go_enter Tryd.func5, Tryd.ntmps5
      go_upto_region 4 with (fail)
      rw [e4'.out]
      have mV : ¬ 9223372036854775807 < 6 + SV.size := by omega
      go_wp2_with fail
      refine (NV.out _).mono ?_
      rintro e w2 ⟨rfl, hb2⟩
      have HB2 := hide (HB.out.trans (hb2.mono HB.out.size))
      have bk2 := BK.out.below hb2 hlt
      have hlt2 := bk2.lt
      have hc2 := fun j => bk2.cell j
      have q2 := hc2 2
      have q3 := hc2 3
      simp only [List.getElem?_toArray, List.getElem?_cons_zero, List.getElem?_cons_succ] at q2 q3
      have BK2 := hide bk2
      clear hb2 bk2 hc2 q0 q1
      go_wp2_with fail
      have ne : Nonempty (BelowOf w2) := ⟨⟨w2, Below.refl _ _⟩⟩
      have q2 : ∀ pw : BelowOf w2, pw.world.cell? ⟨w.heap.size, 2, none⟩ = some (.int .i64 p) := fun pw => pw.cell hlt2 q2
      have q3 : ∀ pw : BelowOf w2, pw.world.cell? ⟨w.heap.size, 3, none⟩ = some (.int .i64 t) := fun pw => pw.cell hlt2 q3
      have mP1 : ¬ 9223372036854775807 < 5 + SP.size := by omega
      have mP2 : ¬ 9223372036854775807 < 5 + SP.size + 5 := by omega
      have mP3 : ¬ 9223372036854775807 < 5 + SP.size + 5 + ST.size := by omega
      refine wp_region_quiet_below (by kernel_rfl) (by kernel_rfl) ?_
      repeat (go_big_quiet_step (first
        | (go_at_call_of 10 (Value.int .i64 p); refine calls_below (NP.out _))
        | (go_at_call_of 10 (Value.int .i64 t); refine calls_below (NT.out _))))
      refine wpQuiet_nil ?_
      rintro w3 ⟨⟨_, hq⟩, rfl⟩
      have HB3 := hide (HB2.out.trans (hq.mono HB2.out.size))
      have BK3 := hide (BK2.out.below hq BK2.out.lt)
      clear hq q2 q3 ne BK2
      generalize hVV : (⟨#[118, 97, 108, 117, 101, 32]⟩ ++ SV) = VV at *
      generalize hPP : (((⟨#[112, 101, 101, 114, 32]⟩ ++ SP) ++ ⟨#[32, 116, 97, 103, 32]⟩) ++ ST) = PP at *
      have hVl : VV.size ≤ 30 := by rw [← hVV, ByteArray.size_append]; have : (⟨#[118, 97, 108, 117, 101, 32]⟩ : ByteArray).size = 6 := rfl; omega
      have hPl : PP.size ≤ 60 := by rw [← hPP, ByteArray.size_append, ByteArray.size_append, ByteArray.size_append]; have h1 : (⟨#[112, 101, 101, 114, 32]⟩ : ByteArray).size = 5 := rfl; have h2 : (⟨#[32, 116, 97, 103, 32]⟩ : ByteArray).size = 5 := rfl; omega
      have HVV := hide hVV
      have HPP := hide hPP
      clear hVV hPP
      go_wp2_with fail
      go_loopw [8, 9] (fun vs vi wr => ∃ (j : Nat) (X : ByteArray), j ≤ row.length ∧ vi = .int .i64 j ∧ vs = .string X ∧ Hid (X = bytes ([114, 111, 119] ++ tlS (row.take j))) ∧ Hid (Below w3.heap.size w3 wr)) (fun _ vi _ => row.length - (intOf vi).toNat)
      case atStart => exact ⟨0, _, by omega, rfl, rfl, hide rfl, hide (Below.refl _ _)⟩
      case round =>
        obtain ⟨j, X, hj, rfl, rfl, HX, HBr⟩ := hrel
        have HBW := hide (HB3.out.trans (HBr.out.mono HB3.out.size))
        have bkr := BK3.out.below HBr.out BK3.out.lt
        have hcr := fun j => bkr.cell j
        have q7 := hcr 7
        simp only [List.getElem?_toArray, List.getElem?_cons_zero, List.getElem?_cons_succ] at q7
        have hXl : X.size ≤ 24000 := by
          have h1 := TL.out j
          rw [List.length_take] at h1
          rw [HX.out, bytes_size, List.length_append]
          simp only [List.length_cons, List.length_nil]
          omega
        by_cases hlj : j < row.length
        · have ljI : (j : Int) < (row.length : Int) := by omega
          obtain ⟨a, rfl, ha, hcell⟩ := HR.out.below HBW.out (by omega)
          have hcj := hcell j hlj
          have NZj := hide (NZ.out j)
          have lz : (bytes (itoa (row.getD j 0))).size ≤ 21 := by rw [bytes_size]; exact LZ.out j
          have EE : Hid (bytes ([114, 111, 119] ++ tlS (row.take (j + 1))) = (X ++ ⟨#[32]⟩) ++ bytes (itoa (row.getD j 0))) := hide (by
            rw [TS.out j hlj, HX.out]
            show _ = (bytes _ ++ bytes [32]) ++ bytes _
            simp only [bytes_app]
            congr 1
            simp)
          clear hcell
          generalize bytes (itoa (row.getD j 0)) = SZ at *
          generalize row.getD j 0 = z at *
          have m1 : ¬ 9223372036854775807 < X.size + 1 := by omega
          have m2 : ¬ 9223372036854775807 < X.size + 1 + SZ.size := by omega
          go_wp2_with fail
          refine (NZj.out _).mono ?_
          rintro e w4 ⟨rfl, hb4⟩
          have HB4 := hide (HBr.out.trans (hb4.mono HBr.out.size))
          clear hb4
          go_wp2_with fail
          go_roundw
          case rel => exact ⟨j + 1, _, by omega, by go_num, rfl, hide EE.out.symm, HB4⟩
          case measure => simp [intOf]; omega
        · have hj2 : j = row.length := by omega
          have HXR : Hid (SR = X) := hide (RF.out.trans (by rw [← hj2]; exact HX.out.symm))
          have ljI : ¬ (j : Int) < (row.length : Int) := by omega
          have q4 := hcr 4
          have q5 := hcr 5
          have q6 := hcr 6
          simp only [List.getElem?_toArray, List.getElem?_cons_zero, List.getElem?_cons_succ] at q4 q5 q6
          clear hcr bkr hj2
          by_cases k4 : k = 4
          · subst k4
            have FF : T 1 = S := HSS.out
            have FE := hide (FF.symm.trans F1.out)
            clear FF
            have m1 : ¬ 9223372036854775807 < 4 + SQ.size := by omega
            go_wp2_with fail
            refine (NQ.out _).mono ?_
            rintro e w5 ⟨rfl, hb5⟩
            have HB5 := hide (HBW.out.trans (hb5.mono HBW.out.size))
            clear hb5
            go_wp2_with fail
            go_ret
            exact ⟨by rw [FE.out]; rfl, HB5.out⟩
          by_cases k5 : k = 5
          · subst k5
            have FF : T 1 = S := HSS.out
            have FE := hide (FF.symm.trans F1.out)
            clear FF
            have m1 : ¬ 9223372036854775807 < 4 + SQ.size := by omega
            go_wp2_with fail
            refine (NQ.out _).mono ?_
            rintro e w5 ⟨rfl, hb5⟩
            have HB5 := hide (HBW.out.trans (hb5.mono HBW.out.size))
            clear hb5
            go_wp2_with fail
            go_ret
            exact ⟨by rw [FE.out]; rfl, HB5.out⟩
          by_cases k7 : k = 7
          · subst k7
            have FF : T 1 = S := HSS.out
            have FE := hide (FF.symm.trans F1.out)
            clear FF
            have m1 : ¬ 9223372036854775807 < 4 + SQ.size := by omega
            go_wp2_with fail
            refine (NQ.out _).mono ?_
            rintro e w5 ⟨rfl, hb5⟩
            have HB5 := hide (HBW.out.trans (hb5.mono HBW.out.size))
            clear hb5
            go_wp2_with fail
            go_ret
            exact ⟨by rw [FE.out]; rfl, HB5.out⟩
          by_cases k6 : k = 6
          · subst k6
            have FF : T 2 = S := HSS.out
            have FE := hide (FF.symm.trans F2.out)
            clear FF
            have m1 : ¬ 9223372036854775807 < VV.size + 1 := by omega
            have m2 : ¬ 9223372036854775807 < VV.size + 1 + PP.size := by omega
            have m3 : ¬ 9223372036854775807 < VV.size + 1 + PP.size + 1 := by omega
            have m4 : ¬ 9223372036854775807 < VV.size + 1 + PP.size + 1 + X.size := by omega
            go_wp2_with fail
            go_ret
            exact ⟨by rw [FE.out, ← HVV.out, ← HPP.out]; rfl, HBW.out⟩
          by_cases k8 : k = 8
          · subst k8
            have FF : T 2 = S := HSS.out
            have FE := hide (FF.symm.trans F2.out)
            clear FF
            have m1 : ¬ 9223372036854775807 < VV.size + 1 := by omega
            have m2 : ¬ 9223372036854775807 < VV.size + 1 + PP.size := by omega
            have m3 : ¬ 9223372036854775807 < VV.size + 1 + PP.size + 1 := by omega
            have m4 : ¬ 9223372036854775807 < VV.size + 1 + PP.size + 1 + X.size := by omega
            go_wp2_with fail
            go_ret
            exact ⟨by rw [FE.out, ← HVV.out, ← HPP.out]; rfl, HBW.out⟩
          by_cases k9 : k = 9
          · subst k9
            have FF : T 3 = S := HSS.out
            have FE := hide (FF.symm.trans F3.out)
            clear FF
            have m1 : ¬ 9223372036854775807 < VV.size + 1 := by omega
            have m2 : ¬ 9223372036854775807 < VV.size + 1 + PP.size := by omega
            have m3 : ¬ 9223372036854775807 < VV.size + 1 + PP.size + 1 := by omega
            have m4 : ¬ 9223372036854775807 < VV.size + 1 + PP.size + 1 + X.size := by omega
            go_wp2_with fail
            go_ret
            exact ⟨by rw [FE.out, ← HVV.out, ← HPP.out, HXR.out]; rfl, HBW.out⟩
          by_cases k10 : k = 10
          · subst k10
            have FF : T 4 = S := HSS.out
            have FE := hide (FF.symm.trans F4.out)
            clear FF
            have m11 : ¬ 9223372036854775807 < 5 + SF.size := by omega
            have m15 : ¬ 9223372036854775807 < 5 + SF.size + 7 := by omega
            have m25 : ¬ 9223372036854775807 < 5 + SF.size + 7 + SI.size := by omega
            have m29 : ¬ 9223372036854775807 < 5 + SF.size + 7 + SI.size + 1 := by omega
            have m39 : ¬ 9223372036854775807 < 5 + SF.size + 7 + SI.size + 1 + VV.size := by omega
            have m43 : ¬ 9223372036854775807 < 5 + SF.size + 7 + SI.size + 1 + VV.size + 1 := by omega
            have m53 : ¬ 9223372036854775807 < 5 + SF.size + 7 + SI.size + 1 + VV.size + 1 + PP.size := by omega
            go_wp2_with fail
            refine (NI.out _).mono ?_
            rintro e w5 ⟨rfl, hb5⟩
            have HB5 := hide (HBW.out.trans (hb5.mono HBW.out.size))
            clear hb5
            go_wp2_with fail
            go_ret
            exact ⟨by rw [FE.out, ← HVV.out, ← HPP.out]; rfl, HB5.out⟩
          by_cases k11 : k = 11
          · subst k11
            have FF : T 4 = S := HSS.out
            have FE := hide (FF.symm.trans F4.out)
            clear FF
            have m11 : ¬ 9223372036854775807 < 5 + SF.size := by omega
            have m15 : ¬ 9223372036854775807 < 5 + SF.size + 7 := by omega
            have m25 : ¬ 9223372036854775807 < 5 + SF.size + 7 + SI.size := by omega
            have m29 : ¬ 9223372036854775807 < 5 + SF.size + 7 + SI.size + 1 := by omega
            have m39 : ¬ 9223372036854775807 < 5 + SF.size + 7 + SI.size + 1 + VV.size := by omega
            have m43 : ¬ 9223372036854775807 < 5 + SF.size + 7 + SI.size + 1 + VV.size + 1 := by omega
            have m53 : ¬ 9223372036854775807 < 5 + SF.size + 7 + SI.size + 1 + VV.size + 1 + PP.size := by omega
            go_wp2_with fail
            refine (NI.out _).mono ?_
            rintro e w5 ⟨rfl, hb5⟩
            have HB5 := hide (HBW.out.trans (hb5.mono HBW.out.size))
            clear hb5
            go_wp2_with fail
            go_ret
            exact ⟨by rw [FE.out, ← HVV.out, ← HPP.out]; rfl, HB5.out⟩
          by_cases k12 : k = 12
          · subst k12
            have FF : T 4 = S := HSS.out
            have FE := hide (FF.symm.trans F4.out)
            clear FF
            have m11 : ¬ 9223372036854775807 < 5 + SF.size := by omega
            have m15 : ¬ 9223372036854775807 < 5 + SF.size + 7 := by omega
            have m25 : ¬ 9223372036854775807 < 5 + SF.size + 7 + SI.size := by omega
            have m29 : ¬ 9223372036854775807 < 5 + SF.size + 7 + SI.size + 1 := by omega
            have m39 : ¬ 9223372036854775807 < 5 + SF.size + 7 + SI.size + 1 + VV.size := by omega
            have m43 : ¬ 9223372036854775807 < 5 + SF.size + 7 + SI.size + 1 + VV.size + 1 := by omega
            have m53 : ¬ 9223372036854775807 < 5 + SF.size + 7 + SI.size + 1 + VV.size + 1 + PP.size := by omega
            go_wp2_with fail
            refine (NI.out _).mono ?_
            rintro e w5 ⟨rfl, hb5⟩
            have HB5 := hide (HBW.out.trans (hb5.mono HBW.out.size))
            clear hb5
            go_wp2_with fail
            go_ret
            exact ⟨by rw [FE.out, ← HVV.out, ← HPP.out]; rfl, HB5.out⟩
          by_cases k13 : k = 13
          · subst k13
            have FF : T 5 = S := HSS.out
            have FE := hide (FF.symm.trans F5.out)
            clear FF
            have m11 : ¬ 9223372036854775807 < 5 + SF.size := by omega
            have m15 : ¬ 9223372036854775807 < 5 + SF.size + 1 := by omega
            have m25 : ¬ 9223372036854775807 < 5 + SF.size + 1 + PP.size := by omega
            go_wp2_with fail
            go_ret
            exact ⟨by rw [FE.out, ← HPP.out]; rfl, HBW.out⟩
          by_cases k14 : k = 14
          · subst k14
            have FF : T 5 = S := HSS.out
            have FE := hide (FF.symm.trans F5.out)
            clear FF
            have m11 : ¬ 9223372036854775807 < 5 + SF.size := by omega
            have m15 : ¬ 9223372036854775807 < 5 + SF.size + 1 := by omega
            have m25 : ¬ 9223372036854775807 < 5 + SF.size + 1 + PP.size := by omega
            go_wp2_with fail
            go_ret
            exact ⟨by rw [FE.out, ← HPP.out]; rfl, HBW.out⟩
          by_cases k16 : k = 16
          · subst k16
            have FF : T 6 = S := HSS.out
            have FE := hide (FF.symm.trans F6.out)
            clear FF
            go_wp2_with fail
            go_ret
            exact ⟨by rw [FE.out, ← HVV.out]; rfl, HBW.out⟩
          by_cases k17 : k = 17
          · subst k17
            have FF : T 6 = S := HSS.out
            have FE := hide (FF.symm.trans F6.out)
            clear FF
            go_wp2_with fail
            go_ret
            exact ⟨by rw [FE.out, ← HVV.out]; rfl, HBW.out⟩
          by_cases k18 : k = 18
          · subst k18
            have FF : T 6 = S := HSS.out
            have FE := hide (FF.symm.trans F6.out)
            clear FF
            go_wp2_with fail
            go_ret
            exact ⟨by rw [FE.out, ← HVV.out]; rfl, HBW.out⟩
          by_cases k19 : k = 19
          · subst k19
            have FF : T 7 = S := HSS.out
            have FE := hide (FF.symm.trans F7.out)
            clear FF
            go_wp2_with fail
            go_ret
            exact ⟨by rw [FE.out, HXR.out]; rfl, HBW.out⟩
          by_cases k20 : k = 20
          · subst k20
            have FF : T 8 = S := HSS.out
            have FE := hide (FF.symm.trans F8.out)
            clear FF
            have m1 : ¬ 9223372036854775807 < 5 + SC.size := by omega
            go_wp2_with fail
            refine (NC.out _).mono ?_
            rintro e w5 ⟨rfl, hb5⟩
            have HB5 := hide (HBW.out.trans (hb5.mono HBW.out.size))
            clear hb5
            go_wp2_with fail
            go_ret
            exact ⟨by rw [FE.out]; rfl, HB5.out⟩
          by_cases k21 : k = 21
          · subst k21
            have FF : T 8 = S := HSS.out
            have FE := hide (FF.symm.trans F8.out)
            clear FF
            have m1 : ¬ 9223372036854775807 < 5 + SC.size := by omega
            go_wp2_with fail
            refine (NC.out _).mono ?_
            rintro e w5 ⟨rfl, hb5⟩
            have HB5 := hide (HBW.out.trans (hb5.mono HBW.out.size))
            clear hb5
            go_wp2_with fail
            go_ret
            exact ⟨by rw [FE.out]; rfl, HB5.out⟩
          have FE : Hid (S = ⟨#[]⟩) := hide (HSS.out.symm.trans (by rw [cls_0 k4 k5 k6 k7 k8 k9 k10 k11 k12 k13 k14 k16 k17 k18 k19 k20 k21]; exact F0.out))
          have e4 : (k == 4) = false := by simpa using k4
          have e5 : (k == 5) = false := by simpa using k5
          have e7 : (k == 7) = false := by simpa using k7
          have e6 : (k == 6) = false := by simpa using k6
          have e8 : (k == 8) = false := by simpa using k8
          have e9 : (k == 9) = false := by simpa using k9
          have e10 : (k == 10) = false := by simpa using k10
          have e11 : (k == 11) = false := by simpa using k11
          have e12 : (k == 12) = false := by simpa using k12
          have e13 : (k == 13) = false := by simpa using k13
          have e14 : (k == 14) = false := by simpa using k14
          have e16 : (k == 16) = false := by simpa using k16
          have e17 : (k == 17) = false := by simpa using k17
          have e18 : (k == 18) = false := by simpa using k18
          have e19 : (k == 19) = false := by simpa using k19
          have e20 : (k == 20) = false := by simpa using k20
          have e21 : (k == 21) = false := by simpa using k21
          clear k4 k5 k7 k6 k8 k9 k10 k11 k12 k13 k14 k16 k17 k18 k19 k20 k21
          go_wp2_with fail
          go_ret
          exact ⟨by rw [FE.out]; rfl, HBW.out⟩
  exact main fl rfl
end Told
end Go.Proofs.YtfbkmdfaolmnbaaDoor
