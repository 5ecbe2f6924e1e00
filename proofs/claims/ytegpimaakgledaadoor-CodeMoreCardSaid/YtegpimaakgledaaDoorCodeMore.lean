/- The walk of the statement CodeMore. -/
import Derived.Test.YtegpimaakgledaaDoorRows
import Derived.Test.YtegpimaakgledaaDoorCodR
import Derived.Test.YtegpimaakgledaaDoorCodS
import Derived.Test.YtegpimaakgledaaDoorCodW
namespace Go.Proofs.YtegpimaakgledaaDoor.CodeMoreW
open Go Go.RowKit Go.Proofs.YtegpimaakgledaaDoor Go.Proofs.YtegpimaakgledaaDoor.Cod
set_option linter.unusedVariables false
set_option linter.unusedSimpArgs false
set_option maxRecDepth 100000 in
set_option maxHeartbeats 8000000 in
theorem walk {H : Type} {enc : TypeId × Value → H} {base : Nat} (W : World) (hO : Ops W) (hP : Pow W) (v0 : Value) (d0 : DataW H) (p0 : List MemPlace) (o0 : Value.okWide Tryd.prog W .any base 25 v0) (r0 : DataW.Trod enc Tryd.prog W 0 (fun _ => true) true 25 v0 d0 p0) (a1 : Int) (w1 : (Lit.int .i64 a1).wf = true) :
    Calls Tryd.prog 8 #[v0, .int .i64 a1] W fun e w' => e = .returned (.bool true) ∧ Below W.heap.size W w' := by
  obtain ⟨C, cs, cc, vars, A, l, ca, rfl, hC, hA, hv⟩ := PrV.of o0 r0
  clear o0 r0
  have hva := bounds_i64 w1
  clear w1
  have HO := hide hO
  have HP := hide hP
  have GR := hide (fun w => Great_c C cs.length cc vars A l.length ca w)
  have MY := hide (fun (w' : World) (h1 : CodeAt w' C cs) (h2 : IntAt w' A l) (h3 : Ops w') hlc hla => May_c C cc cs vars A ca l w' h1 h2 hlc hla h3)
  have HT := hide (fun (w' : World) (h1 : CodeAt w' C cs) (h2 : IntAt w' A l) (h3 : Ops w') hlc hla => Heights_c C cc cs vars A ca l w' h1 h2 hlc hla h3)
  have CP := hide (fun (w' : World) (h1 : CodeAt w' C cs) (h2 : IntAt w' A l) hlc hla => Copy_c C cc cs vars A ca l w' h1 h2 hlc hla)
  have hb1 := (Below.refl W.heap.size W).alloc (Nat.le_refl _) (.cells #[.slice C cs.length cc, .int .i64 vars, .slice A l.length ca] 25)
  have k1 := Blk.new W 25 #[.slice C cs.length cc, .int .i64 vars, .slice A l.length ca]
  have HC := hide hC
  have HA := hide hA
  have HV := hide hva
  have HVV := hide hv
  clear hC hA hO hP hva hv
  unfold PrV at GR MY HT CP ⊢
  go_enter Tryd.func8, Tryd.ntmps8
  go_upto_region 1 with (fail)
  obtain ⟨wb, hwb⟩ : ∃ z, W.alloc (.cells #[.slice C cs.length cc, .int .i64 vars, .slice A l.length ca] 25) = z := ⟨_, rfl⟩
  rw [hwb] at hb1 k1 ⊢
  have HB1 := hide hb1
  have K1 := hide k1
  clear hb1 k1 hwb
  go_wp2_with fail
  refine (awake_c wb (HO.out.below HB1.out (Nat.le_refl _)) (HP.out.below HB1.out (Nat.le_refl _))).mono ?_
  rintro e w2 ⟨rfl, hb2⟩
  have HB2 := hide (HB1.out.trans (hb2.mono HB1.out.size))
  have K2 := hide (K1.out.below hb2 K1.out.lt)
  clear hb2 K1 HB1
  have q0 : w2.cell? ⟨W.heap.size, 0, none⟩ = some (.slice C cs.length cc) := K2.out.cell 0
  have q1 : w2.cell? ⟨W.heap.size, 1, none⟩ = some (.int .i64 vars) := K2.out.cell 1
  have q2 : w2.cell? ⟨W.heap.size, 2, none⟩ = some (.slice A l.length ca) := K2.out.cell 2
  go_wp2_with fail
  refine (GR.out w2).mono ?_
  rintro e w3 ⟨rfl, hb3⟩
  have HB3 := hide (HB2.out.trans (hb3.mono HB2.out.size))
  have K3 := hide (K2.out.below hb3 K2.out.lt)
  clear hb3 K2 HB2 q0 q1 q2 GR
  cases hg : grC cs.length l.length with
  | true =>
    go_wp2_with fail
    go_ret
    exact ⟨rfl, HB3.out⟩
  | false =>
    have hgl : cs.length ≤ 400 ∧ l.length ≤ 100 := by
      unfold grC at hg
      simp only [Bool.or_eq_false_iff, decide_eq_false_iff_not] at hg
      omega
    have HGL := hide hgl
    clear hg hgl
    have q0 : w3.cell? ⟨W.heap.size, 0, none⟩ = some (.slice C cs.length cc) := K3.out.cell 0
    have q1 : w3.cell? ⟨W.heap.size, 1, none⟩ = some (.int .i64 vars) := K3.out.cell 1
    have q2 : w3.cell? ⟨W.heap.size, 2, none⟩ = some (.slice A l.length ca) := K3.out.cell 2
    go_wp2_with fail
    refine (MY.out w3 (HC.out.below HB3.out) (HA.out.below HB3.out) (HO.out.below HB3.out (Nat.le_refl _)) (by have := HGL.out.1; omega) (by have := HGL.out.2; omega)).mono ?_
    rintro e w4 ⟨⟨r, hr, rfl⟩, hb4⟩
    have HB4 := hide (HB3.out.trans (hb4.mono HB3.out.size))
    have K4 := hide (K3.out.below hb4 K3.out.lt)
    clear hb4 K3 HB3 q0 q1 q2 MY
    cases r with
    | none =>
      clear hr
      go_wp2_with fail
      go_ret
      exact ⟨rfl, HB4.out⟩
    | some hs =>
      have R := hide hr
      clear hr
      have q0 : w4.cell? ⟨W.heap.size, 0, none⟩ = some (.slice C cs.length cc) := K4.out.cell 0
      have q1 : w4.cell? ⟨W.heap.size, 1, none⟩ = some (.int .i64 vars) := K4.out.cell 1
      have q2 : w4.cell? ⟨W.heap.size, 2, none⟩ = some (.slice A l.length ca) := K4.out.cell 2
      go_wp2_with fail
      refine (HT.out w4 (HC.out.below HB4.out) (HA.out.below HB4.out) (HO.out.below HB4.out (Nat.le_refl _)) (by have := HGL.out.1; omega) (by have := HGL.out.2; omega)).mono ?_
      rintro e w5 ⟨⟨r, hr, hh⟩, hb5⟩
      have er := HtR.det hr R.out
      subst er
      rcases hh with ⟨h1, _⟩ | ⟨hs1, g, h1, hlen, _, rfl, _, hgb⟩
      · cases h1
      cases h1
      have HB5 := hide (HB4.out.trans (hb5.mono HB4.out.size))
      have K5 := hide (K4.out.below hb5 K4.out.lt)
      have HGB := hide hgb
      clear hb5 K4 HB4 q0 q1 q2 HT hr
      obtain ⟨N, hN⟩ : ∃ N, cs.length = N := ⟨_, rfl⟩
      have HN := hide hN
      have hN4 : N ≤ 400 := by have := HGL.out.1; omega
      have hlN : hs.length = N := by omega
      have HLN := hide hlN
      rw [hN]
      have hN0 : 0 < N := by
        rcases R.out with ⟨_, h⟩ | ⟨h, _⟩
        · cases h
        · have := (mayNs_csok h).pos; omega
      have HSU := hide (HtR.sums R.out)
      clear hlen hgb hN hlN
      have q0 : w5.cell? ⟨W.heap.size, 0, none⟩ = some (.slice C N cc) := by rw [← HN.out]; exact K5.out.cell 0
      have q1 : w5.cell? ⟨W.heap.size, 1, none⟩ = some (.int .i64 vars) := K5.out.cell 1
      have q2 : w5.cell? ⟨W.heap.size, 2, none⟩ = some (.slice A l.length ca) := K5.out.cell 2
      go_wp2_with fail
      go_loopw [7, 8] (fun v7 v8 wr => ∃ k : Nat, k ≤ l.length ∧ v8 = .int .i64 k ∧ v7 = .int .i64 (sumL (l.take k)) ∧ w5 = wr) (fun _ v8 _ => l.length - (RowKit.intOf v8).toNat)
      case atStart => exact ⟨0, Nat.zero_le _, rfl, rfl, rfl⟩
      case round =>
        obtain ⟨k, hk, rfl, rfl, rfl⟩ := hrel
        by_cases hlt : k < l.length
        · have hltI : (k : Int) < (l.length : Int) := by omega
          obtain ⟨ad, rfl, hadl, hcel⟩ := HA.out (by omega)
          obtain ⟨hc0, hc1, hc2⟩ := hcel k hlt
          have hc3 := (HB5.out.cell (by rw [block_of_add]; exact hadl)).trans hc0
          have hst := sumL_take l k hlt
          have hs1 := HSU.out.2.2 k
          have hs2 := HSU.out.2.2 (k + 1)
          rw [hst] at hs2
          have HST := hide hst
          obtain ⟨S, hS⟩ : ∃ S, sumL (l.take k) = S := ⟨_, rfl⟩
          obtain ⟨x, hx⟩ : ∃ x, l[k] = x := ⟨_, rfl⟩
          rw [hS] at hs1 hs2 HST ⊢
          rw [hx] at hs2 hc3 HST
          have s1 : IntKind.i64.wrap (S + x) = S + x := by rw [IntKind.wrap_i64]; omega
          have s2 : IntKind.i64.wrap ((k : Int) + 1) = (k : Int) + 1 := by rw [IntKind.wrap_i64]; have := HGL.out.2; omega
          clear hst hs1 hs2 hcel hc0 hc1 hc2 hS hx
          go_wp2_with fail
          go_roundw
          case rel => exact ⟨k + 1, by omega, by simp, by rw [HST.out], by first | rfl | trivial⟩
          case measure => simp [RowKit.intOf] <;> omega
        have hltI : ¬ (k : Int) < (l.length : Int) := by omega
        have hkl : k = l.length := by omega
        subst hkl
        rw [List.take_length]
        have hSb := HSU.out.2.2 l.length
        rw [List.take_length] at hSb
        obtain ⟨S, hS⟩ : ∃ S, sumL l = S := ⟨_, rfl⟩
        rw [hS] at hSb ⊢
        have HS := hide hS
        have s9 : IntKind.i64.wrap (1000 - S) = 1000 - S := by rw [IntKind.wrap_i64]; omega
        have sv : IntKind.i64.wrap (vars + 1) = vars + 1 := by rw [IntKind.wrap_i64]; have := HSU.out.1; have := HSU.out.2.1; omega
        have CQ1 := CP.out w5 (HC.out.below HB5.out) (HA.out.below HB5.out) (by have := HGL.out.1; omega) (by have := HGL.out.2; omega)
        rw [HN.out] at CQ1
        have CQ := hide CQ1
        clear CQ1
        clear hS hSb
        go_wp2_with fail
        refine CQ.out.mono ?_
        rintro e w6 ⟨C2, cc2, A2, ca2, rfl, hown, hb6⟩
        obtain ⟨hoc, hoa⟩ := hown
        rw [HN.out] at hoc
        have hl7 := (Below.refl w6.heap.size w6).alloc (Nat.le_refl _) (.cells #[.slice C2 N cc2, .int .i64 vars, .slice A2 l.length ca2] 25)
        have k7 := Blk.new w6 25 #[.slice C2 N cc2, .int .i64 vars, .slice A2 l.length ca2]
        have hoc7 := own_belowR hoc hl7
        have hoa7 := own_belowR hoa hl7
        have hb67 := hb6.trans (hl7.mono hb6.size)
        have HB7 := hide (HB5.out.trans (hb67.mono HB5.out.size))
        have K7 := hide (K5.out.below hb67 K5.out.lt)
        have HG7 := hide (HGB.out.below hb67 HGB.out.lt)
        have HWX := hide (show W.heap.size < w6.heap.size from Nat.lt_of_lt_of_le K5.out.lt hb6.size)
        have HGX := hide (show g < w6.heap.size from Nat.lt_of_lt_of_le HGB.out.lt hb6.size)
        have HOC := hide hoc7
        have HOA := hide hoa7
        have Q7 := hide k7
        clear q0 q1 q2 CQ hoc hoa hl7 k7 hoc7 hoa7 hb6 hb67
        go_upto_region 12 with (fail)
        obtain ⟨w7, hw7⟩ : ∃ z, w6.alloc (.cells #[.slice C2 N cc2, .int .i64 vars, .slice A2 l.length ca2] 25) = z := ⟨_, rfl⟩
        rw [hw7] at HB7 K7 HG7 HOC HOA Q7 ⊢
        obtain ⟨X, hX⟩ : ∃ X, w6.heap.size = X := ⟨_, rfl⟩
        rw [hX] at Q7 HWX HGX ⊢
        clear hw7 hX w6
        have x1 : w7.cell? ⟨X, 1, none⟩ = some (.int .i64 vars) := Q7.out.cell 1
        have f1 := Q7.out.frozen 1
        go_upto_region 13 with (fail)
        have HB8 := hide (HB7.out.setCell (p := ⟨X, 1, none⟩) (Nat.le_of_lt HWX.out) (.int .i64 (vars + 1)))
        have K8 := hide (K7.out.far (p := ⟨X, 1, none⟩) (show W.heap.size ≠ X from Nat.ne_of_lt HWX.out) (.int .i64 (vars + 1)))
        have HG8 := hide (HG7.out.far (p := ⟨X, 1, none⟩) (show g ≠ X from Nat.ne_of_lt HGX.out) (.int .i64 (vars + 1)))
        have oc8 := own_setCell (p := ⟨X, 1, none⟩) HOC.out (own_blk_ne HOC.out Q7.out (by decide)) (.int .i64 (vars + 1))
        have oa8 := own_setCell (p := ⟨X, 1, none⟩) HOA.out (own_blk_ne HOA.out Q7.out (by decide)) (.int .i64 (vars + 1))
        have Q8 := hide (Q7.out.set_ 1 (.int .i64 (vars + 1)))
        obtain ⟨w8, hw8⟩ : ∃ z, w7.setCell ⟨X, 1, none⟩ (.int .i64 (vars + 1)) = z := ⟨_, rfl⟩
        rw [hw8] at HB8 K8 HG8 oc8 oa8 Q8 ⊢
        have okc : ∀ x ∈ cs, x.ok := fun x hx => by
          obtain ⟨i, hi, rfl⟩ := List.getElem_of_mem hx
          obtain ⟨_, _, _, hc⟩ := HC.out (by omega)
          exact (hc i hi).1
        have oka : ∀ x ∈ l, -9223372036854775808 ≤ x ∧ x ≤ 9223372036854775807 := fun x hx => by
          obtain ⟨i, hi, rfl⟩ := List.getElem_of_mem hx
          obtain ⟨_, _, _, hc⟩ := HA.out (by omega)
          exact (hc i hi).2
        have OKC := hide okc
        have OKA := hide oka
        have C8 := hide (CodeAt.of_own oc8 okc)
        have A8 := hide (IntAt.of_own oa8 oka)
        clear hw8 HB7 K7 HG7 HOC HOA Q7 x1 f1 oc8 oa8 okc oka w7
        have q0 : w8.cell? ⟨W.heap.size, 0, none⟩ = some (.slice C N cc) := by rw [← HN.out]; exact K8.out.cell 0
        have q1 : w8.cell? ⟨W.heap.size, 1, none⟩ = some (.int .i64 vars) := K8.out.cell 1
        have q2 : w8.cell? ⟨W.heap.size, 2, none⟩ = some (.slice A l.length ca) := K8.out.cell 2
        have CQ1 := CP.out w8 (HC.out.below HB8.out) (HA.out.below HB8.out) (by have := HGL.out.1; omega) (by have := HGL.out.2; omega)
        rw [HN.out] at CQ1
        have CQ := hide CQ1
        clear CQ1
        go_wp2_with fail
        refine CQ.out.mono ?_
        rintro e w9 ⟨C3, cc3, A3, ca3, rfl, hown, hb9⟩
        obtain ⟨hoc, hoa⟩ := hown
        rw [HN.out] at hoc
        have hl10 := (Below.refl w9.heap.size w9).alloc (Nat.le_refl _) (.cells #[.slice C3 N cc3, .int .i64 vars, .slice A3 l.length ca3] 25)
        have k10 := Blk.new w9 25 #[.slice C3 N cc3, .int .i64 vars, .slice A3 l.length ca3]
        have HOC := hide (own_belowR hoc hl10)
        have HOA := hide (own_belowR hoa hl10)
        have HL10 := hide (hb9.trans (hl10.mono hb9.size))
        have HYY := hide hb9.size
        have Y10 := hide k10
        clear q0 q1 q2 CQ hoc hoa hl10 k10 hb9
        go_upto_region 14 with (fail)
        obtain ⟨w10, hw10⟩ : ∃ z, w9.alloc (.cells #[.slice C3 N cc3, .int .i64 vars, .slice A3 l.length ca3] 25) = z := ⟨_, rfl⟩
        rw [hw10] at HOC HOA HL10 Y10 ⊢
        obtain ⟨Y, hY⟩ : ∃ Y, w9.heap.size = Y := ⟨_, rfl⟩
        rw [hY] at Y10 HYY ⊢
        clear hw10 hY w9
        obtain ⟨A4, c4, w11, hrun, hown, hbl, hky⟩ := push_int w10 w8.heap.size A3 ca3 l.length l a1 rfl HOA.out HL10.out.size (by have := HGL.out.2; omega)
        have y2 : w10.cell? ⟨Y, 2, none⟩ = some (.slice A3 l.length ca3) := Y10.out.cell 2
        have Y11 := hide (KeepsBut.blk hky Y10.out (by decide))
        have y3 : w11.cell? ⟨Y, 2, none⟩ = some (.slice A3 l.length ca3) := Y11.out.cell 2
        have f2 := Y11.out.frozen 2
        have HOC11 := hide (KeepsBut.own hky HOC.out (by decide))
        have HOA11 := hide hown
        have HL11 := hide (HL10.out.trans hbl)
        have RUN := hide hrun
        have hY11 := Y10.out.lt
        clear hrun hown hbl hky
        go_upto_region 15 with (at_builtin; refine Lib.wpList_append_run _ rfl _ _ 23 23 rfl _ _ rfl rfl _ _ RUN.out ?_)
        have Y12 := hide (Y11.out.set_ 2 (.slice A4 (l.length + 1) c4))
        have oc12 := own_setCell (p := ⟨Y, 2, none⟩) HOC11.out (own_blk_ne HOC11.out Y11.out (by decide)) (.slice A4 (l.length + 1) c4)
        have oa12 := own_setCell (p := ⟨Y, 2, none⟩) HOA11.out (own_blk_ne HOA11.out Y11.out (by decide)) (.slice A4 (l.length + 1) c4)
        have HL12 := hide (HL11.out.setCell (p := ⟨Y, 2, none⟩) HYY.out (.slice A4 (l.length + 1) c4))
        obtain ⟨w12, hw12⟩ : ∃ z, w11.setCell ⟨Y, 2, none⟩ (.slice A4 (l.length + 1) c4) = z := ⟨_, rfl⟩
        rw [hw12] at Y12 oc12 oa12 HL12 ⊢
        have okp : ∀ x ∈ l ++ [a1], -9223372036854775808 ≤ x ∧ x ≤ 9223372036854775807 := fun x hx => by
          rcases List.mem_append.1 hx with h | h
          · exact OKA.out x h
          · rw [List.mem_singleton.1 h]; exact HV.out
        have hl1 : (l ++ [a1]).length = l.length + 1 := by simp
        have C12 := hide (CodeAt.of_own oc12 OKC.out)
        have A12 := hide (IntAt.of_own (n := l.length + 1) oa12 okp)
        have HB12 := hide (HB8.out.trans (HL12.out.mono HB8.out.size))
        have HG12 := hide (HG8.out.below HL12.out HG8.out.lt)
        have K12 := hide (K8.out.below HL12.out K8.out.lt)
        have Q12 := hide (Q8.out.below HL12.out Q8.out.lt)
        have HQ := hide (Heights_c C2 cc2 cs (vars + 1) A2 ca2 l w12 (C8.out.below HL12.out) (A8.out.below HL12.out) (by have := HGL.out.1; omega) (by have := HGL.out.2; omega) (HO.out.below HB12.out (Nat.le_refl _)))
        have HR := hide (fun (w' : World) (h1 : CodeAt w' C3 cs) (h2 : IntAt w' A4 (l ++ [a1])) (h3 : Ops w') => Heights_c C3 cc3 cs vars A4 c4 (l ++ [a1]) w' h1 h2 (by have := HGL.out.1; omega) (by have := HGL.out.2; omega) h3)
        have RQ := hide (HtR.var R.out)
        have RR := hide (HtR.arr R.out a1)
        rw [HS.out] at RR
        rw [hl1] at HR
        unfold PrV at HQ HR
        rw [HN.out] at HQ HR
        clear hw12 oc12 oa12 okp hl1 HL10 HL11 HOC HOA HOC11 HOA11 RUN Y10 Y11 y2 y3 f2 hY11 HB8 HG8 K8 Q8 C8 A8 HL12 HYY
        have x0 : w12.cell? ⟨X, 0, none⟩ = some (.slice C2 N cc2) := Q12.out.cell 0
        have x1 : w12.cell? ⟨X, 1, none⟩ = some (.int .i64 (vars + 1)) := Q12.out.cell 1
        have x2 : w12.cell? ⟨X, 2, none⟩ = some (.slice A2 l.length ca2) := Q12.out.cell 2
        go_wp2_with fail
        refine HQ.out.mono ?_
        rintro e w13 ⟨⟨rq, hrq, hhq⟩, hb13⟩
        have erq := HtR.det hrq RQ.out
        have HB13 := hide (HB12.out.trans (hb13.mono HB12.out.size))
        have HG13 := hide (HG12.out.below hb13 HG12.out.lt)
        have K13 := hide (K12.out.below hb13 K12.out.lt)
        have Y13 := hide (Y12.out.below hb13 Y12.out.lt)
        have HQR := hide (HR.out w13 (C12.out.below hb13) (A12.out.below hb13) (HO.out.below HB13.out (Nat.le_refl _)))
        have HHQ := hide hhq
        have ERQ := hide erq
        clear hb13 HB12 HG12 K12 Q12 Y12 x0 x1 x2 HQ HR C12 A12 hrq hhq erq
        have y0 : w13.cell? ⟨Y, 0, none⟩ = some (.slice C3 N cc3) := Y13.out.cell 0
        have y1 : w13.cell? ⟨Y, 1, none⟩ = some (.int .i64 vars) := Y13.out.cell 1
        have y2 : w13.cell? ⟨Y, 2, none⟩ = some (.slice A4 (l.length + 1) c4) := Y13.out.cell 2
        rcases HHQ.out with ⟨h1, rfl⟩ | ⟨hs1, g1, h1, _, _, rfl, _, hgb⟩
        · have hnv : ¬ vars < 64 := fun h => by rw [ERQ.out, if_pos h] at h1; cases h1
          clear h1 HHQ ERQ
          go_wp2_with fail
          refine HQR.out.mono ?_
          rintro e w14 ⟨⟨rr, hrr, hhr⟩, hb14⟩
          have err := HtR.det hrr RR.out
          have HB14 := hide (HB13.out.trans (hb14.mono HB13.out.size))
          have HG14 := hide (HG13.out.below hb14 HG13.out.lt)
          have K14 := hide (K13.out.below hb14 K13.out.lt)
          clear hb14 HB13 HG13 K13 Y13 y0 y1 y2 HQR hrr
          have q1 : w14.cell? ⟨W.heap.size, 1, none⟩ = some (.int .i64 vars) := K14.out.cell 1
          rcases hhr with ⟨h1, rfl⟩ | ⟨hs1, g2, h1, _, _, rfl, _, hgb⟩
          · have hna : ¬ (1 ≤ a1 ∧ a1 ≤ 1000 - S) := fun h => by rw [err, if_pos h] at h1; cases h1
            clear h1 err
            by_cases ha : 1 ≤ a1
            · have hna : ¬ a1 ≤ 1000 - S := fun h => hna ⟨ha, h⟩
              go_wp2_with fail
              go_loopw [15] (fun v15 wr => ∃ k : Nat, k ≤ N ∧ v15 = .int .i64 k ∧ Hid (Blk wr g 3 (hI hs).toArray) ∧ Hid (Blk wr W.heap.size 25 #[.slice C cs.length cc, .int .i64 vars, .slice A l.length ca]) ∧ Hid (Below W.heap.size W wr)) (fun v15 _ => N - (RowKit.intOf v15).toNat)
              case atStart => exact ⟨0, Nat.zero_le _, rfl, HG14, K14, HB14⟩
              case round =>
                obtain ⟨k, hk, rfl, HG9, K9, HB9⟩ := hrel
                rename World => wr
                by_cases hlt : k < N
                · have hltI : (k : Int) < (N : Int) := by omega
                  have a0 := HG9.out.cell k
                  rw [hI_at (by have := HLN.out; omega)] at a0
                  obtain ⟨zk, hzk⟩ : ∃ z, hs.getD k 0 = z := ⟨_, rfl⟩
                  rw [hzk] at a0
                  have zf : (zk != zk) = false := by simp
                  clear hzk
                  go_wp2_with fail
                  go_quiet (fail)
                  go_wp2_with fail
                  go_roundw
                  case rel => exact ⟨k + 1, by omega, by go_num, hide (HG9.out.drewN _), hide (K9.out.drewN _), hide (below_drewN HB9.out _)⟩
                  case measure => simp [RowKit.intOf] <;> omega
                have hltI : ¬ (k : Int) < (N : Int) := by omega
                have HB14 := HB9
                have K14 := K9
                obtain ⟨w14, hw14⟩ : ∃ z, wr = z := ⟨_, rfl⟩
                subst hw14
                have q0 : wr.cell? ⟨W.heap.size, 0, none⟩ = some (.slice C N cc) := by rw [← HN.out]; exact K9.out.cell 0
                have q1 : wr.cell? ⟨W.heap.size, 1, none⟩ = some (.int .i64 vars) := K9.out.cell 1
                have q2 : wr.cell? ⟨W.heap.size, 2, none⟩ = some (.slice A l.length ca) := K9.out.cell 2
                have CQ1 := CP.out wr (HC.out.below HB9.out) (HA.out.below HB9.out) (by have := HGL.out.1; omega) (by have := HGL.out.2; omega)
                rw [HN.out] at CQ1
                have CQ := hide CQ1
                clear CQ1
                have s2 : IntKind.i64.wrap ((N : Int) - 1) = ((N - 1 : Nat) : Int) := by rw [IntKind.wrap_i64]; omega
                go_wp2_with fail
                refine CQ.out.mono ?_
                rintro e w16 ⟨C5, cc5, A5, ca5, rfl, hown, hb16⟩
                obtain ⟨hoc, hoa⟩ := hown
                rw [HN.out] at hoc
                have hl17 := (Below.refl w16.heap.size w16).alloc (Nat.le_refl _) (.cells #[.slice C5 N cc5, .int .i64 vars, .slice A5 l.length ca5] 25)
                have k17 := Blk.new w16 25 #[.slice C5 N cc5, .int .i64 vars, .slice A5 l.length ca5]
                have HOC := hide (own_belowR hoc hl17)
                have HOA := hide (own_belowR hoa hl17)
                have hb17 := hb16.trans (hl17.mono hb16.size)
                have HB17 := hide (HB9.out.trans (hb17.mono HB9.out.size))
                have HWZ := hide (show W.heap.size ≤ w16.heap.size from Nat.le_trans HB9.out.size hb16.size)
                have Z17 := hide k17
                clear q0 q1 q2 CQ hoc hoa hl17 k17 hb16 hb17
                go_upto_region 25 with (fail)
                obtain ⟨w17, hw17⟩ : ∃ z, w16.alloc (.cells #[.slice C5 N cc5, .int .i64 vars, .slice A5 l.length ca5] 25) = z := ⟨_, rfl⟩
                rw [hw17] at HOC HOA HB17 Z17 ⊢
                obtain ⟨Z, hZ⟩ : ∃ Z, w16.heap.size = Z := ⟨_, rfl⟩
                rw [hZ] at Z17 HWZ ⊢
                clear hw17 hZ w16
                have z0 : w17.cell? ⟨Z, 0, none⟩ = some (.slice C5 N cc5) := Z17.out.cell 0
                have f0 := Z17.out.frozen 0
                by_cases h2 : N = 1
                · subst h2
                  go_wp2_with fail
                  go_ret
                  exact ⟨rfl, HB17.out⟩
                have h2I : ¬ (N : Int) < 2 := by omega
                obtain ⟨K, hK⟩ : ∃ K, N - 1 = K := ⟨_, rfl⟩
                rw [hK] at s2
                have hKN : K ≤ N := by omega
                have hKc : N ≤ cc5 := own_cap HOC.out
                have hKc2 : K ≤ cc5 := by omega
                have HCUT := hide (cut_code HOC.out hKN HN.out)
                obtain ⟨g5, cap5, hC5, _, _⟩ := HOC.out.form hN0
                obtain rfl : C5 = some ⟨g5, 0, none⟩ := by injection hC5
                have HK := hide (show K + 1 = N by omega)
                have hKI : (K : Int) ≤ (N : Int) := by omega
                have hK0 : (0 : Int) ≤ (K : Int) := by omega
                have hKcI : (K : Int) ≤ (cc5 : Int) := by omega
                have Z18 := hide (Z17.out.set_ 0 (.slice (some ⟨g5, 0, none⟩) K cc5))
                have oc18 := own_setCell (p := ⟨Z, 0, none⟩) HCUT.out (own_blk_ne HCUT.out Z17.out (by decide)) (.slice (some ⟨g5, 0, none⟩) K cc5)
                have oa18 := own_setCell (p := ⟨Z, 0, none⟩) HOA.out (own_blk_ne HOA.out Z17.out (by decide)) (.slice (some ⟨g5, 0, none⟩) K cc5)
                have HB18 := hide (HB17.out.setCell (p := ⟨Z, 0, none⟩) HWZ.out (.slice (some ⟨g5, 0, none⟩) K cc5))
                have hKl : (cs.take K).length = K := by rw [List.length_take]; have := HN.out; omega
                have C18 := hide (CodeAt.of_own (n := K) oc18 (fun x hx => OKC.out x (List.mem_of_mem_take hx)))
                have A18 := hide (IntAt.of_own oa18 OKA.out)
                clear hK oc18 oa18 hC5
                go_upto_region 28 with (fail)
                obtain ⟨w18, hw18⟩ : ∃ z, w17.setCell ⟨Z, 0, none⟩ (.slice (some ⟨g5, 0, none⟩) K cc5) = z := ⟨_, rfl⟩
                rw [hw18] at Z18 HB18 C18 A18 ⊢
                have MS1 := May_c (some ⟨g5, 0, none⟩) cc5 (cs.take K) vars A5 ca5 l w18 C18.out A18.out (by omega) (by have := HGL.out.2; omega) (HO.out.below HB18.out (Nat.le_refl _))
                rw [hKl] at MS1
                unfold PrV at MS1
                have MS := hide MS1
                clear MS1
                have HKL := hide hKl
                clear hw18 z0 f0 hKl
                have z0 : w18.cell? ⟨Z, 0, none⟩ = some (.slice (some ⟨g5, 0, none⟩) K cc5) := Z18.out.cell 0
                have z1 : w18.cell? ⟨Z, 1, none⟩ = some (.int .i64 vars) := Z18.out.cell 1
                have z2 : w18.cell? ⟨Z, 2, none⟩ = some (.slice A5 l.length ca5) := Z18.out.cell 2
                go_wp2_with fail
                refine MS.out.mono ?_
                rintro e w19 ⟨⟨r19, hr19, rfl⟩, hb19⟩
                have HB19 := hide (HB18.out.trans (hb19.mono HB18.out.size))
                have Z19 := hide (Z18.out.below hb19 Z18.out.lt)
                have C19 := hide (C18.out.below hb19)
                clear hb19 MS z0 z1 z2
                cases r19 with
                | none =>
                  clear hr19
                  go_wp2_with fail
                  go_ret
                  exact ⟨rfl, HB19.out⟩
                | some hs9 =>
                  obtain ⟨hp9, ho9⟩ := hr19.last rfl
                  rw [HKL.out] at hp9 ho9
                  obtain ⟨ad9, e9, -, hc9⟩ := C19.out (by have := HKL.out; omega)
                  injection e9 with e9
                  subst e9
                  obtain ⟨-, h9, -⟩ := hc9 (K - 1) (by have := HKL.out; omega)
                  rw [show ((cs.take K)[K - 1]'(by have := HKL.out; omega)) = (cs.take K).getD (K - 1) default by rw [List.getD_eq_getElem?_getD, List.getElem?_eq_getElem (by have := HKL.out; omega)]; rfl, ho9, Go.WideShapes.add_plain, Nat.zero_add] at h9
                  have s3 : IntKind.i64.wrap ((K : Int) - 1) = ((K - 1 : Nat) : Int) := by rw [IntKind.wrap_i64]; omega
                  obtain ⟨J, hJ⟩ : ∃ J, K - 1 = J := ⟨_, rfl⟩
                  rw [hJ] at h9 s3
                  have hJK : (J : Int) < (K : Int) := by omega
                  have hJK2 : J < K := by omega
                  have z0 : w19.cell? ⟨Z, 0, none⟩ = some (.slice (some ⟨g5, 0, none⟩) K cc5) := Z19.out.cell 0
                  clear hr19 hp9 ho9 hc9 hJ
                  go_wp2_with fail
                  go_ret
                  exact ⟨rfl, HB19.out⟩
            · clear hna
              go_wp2_with fail
              go_loopw [15] (fun v15 wr => ∃ k : Nat, k ≤ N ∧ v15 = .int .i64 k ∧ Hid (Blk wr g 3 (hI hs).toArray) ∧ Hid (Blk wr W.heap.size 25 #[.slice C cs.length cc, .int .i64 vars, .slice A l.length ca]) ∧ Hid (Below W.heap.size W wr)) (fun v15 _ => N - (RowKit.intOf v15).toNat)
              case atStart => exact ⟨0, Nat.zero_le _, rfl, HG14, K14, HB14⟩
              case round =>
                obtain ⟨k, hk, rfl, HG9, K9, HB9⟩ := hrel
                rename World => wr
                by_cases hlt : k < N
                · have hltI : (k : Int) < (N : Int) := by omega
                  have a0 := HG9.out.cell k
                  rw [hI_at (by have := HLN.out; omega)] at a0
                  obtain ⟨zk, hzk⟩ : ∃ z, hs.getD k 0 = z := ⟨_, rfl⟩
                  rw [hzk] at a0
                  have zf : (zk != zk) = false := by simp
                  clear hzk
                  go_wp2_with fail
                  go_quiet (fail)
                  go_wp2_with fail
                  go_roundw
                  case rel => exact ⟨k + 1, by omega, by go_num, hide (HG9.out.drewN _), hide (K9.out.drewN _), hide (below_drewN HB9.out _)⟩
                  case measure => simp [RowKit.intOf] <;> omega
                have hltI : ¬ (k : Int) < (N : Int) := by omega
                have HB14 := HB9
                have K14 := K9
                obtain ⟨w14, hw14⟩ : ∃ z, wr = z := ⟨_, rfl⟩
                subst hw14
                have q0 : wr.cell? ⟨W.heap.size, 0, none⟩ = some (.slice C N cc) := by rw [← HN.out]; exact K9.out.cell 0
                have q1 : wr.cell? ⟨W.heap.size, 1, none⟩ = some (.int .i64 vars) := K9.out.cell 1
                have q2 : wr.cell? ⟨W.heap.size, 2, none⟩ = some (.slice A l.length ca) := K9.out.cell 2
                have CQ1 := CP.out wr (HC.out.below HB9.out) (HA.out.below HB9.out) (by have := HGL.out.1; omega) (by have := HGL.out.2; omega)
                rw [HN.out] at CQ1
                have CQ := hide CQ1
                clear CQ1
                have s2 : IntKind.i64.wrap ((N : Int) - 1) = ((N - 1 : Nat) : Int) := by rw [IntKind.wrap_i64]; omega
                go_wp2_with fail
                refine CQ.out.mono ?_
                rintro e w16 ⟨C5, cc5, A5, ca5, rfl, hown, hb16⟩
                obtain ⟨hoc, hoa⟩ := hown
                rw [HN.out] at hoc
                have hl17 := (Below.refl w16.heap.size w16).alloc (Nat.le_refl _) (.cells #[.slice C5 N cc5, .int .i64 vars, .slice A5 l.length ca5] 25)
                have k17 := Blk.new w16 25 #[.slice C5 N cc5, .int .i64 vars, .slice A5 l.length ca5]
                have HOC := hide (own_belowR hoc hl17)
                have HOA := hide (own_belowR hoa hl17)
                have hb17 := hb16.trans (hl17.mono hb16.size)
                have HB17 := hide (HB9.out.trans (hb17.mono HB9.out.size))
                have HWZ := hide (show W.heap.size ≤ w16.heap.size from Nat.le_trans HB9.out.size hb16.size)
                have Z17 := hide k17
                clear q0 q1 q2 CQ hoc hoa hl17 k17 hb16 hb17
                go_upto_region 25 with (fail)
                obtain ⟨w17, hw17⟩ : ∃ z, w16.alloc (.cells #[.slice C5 N cc5, .int .i64 vars, .slice A5 l.length ca5] 25) = z := ⟨_, rfl⟩
                rw [hw17] at HOC HOA HB17 Z17 ⊢
                obtain ⟨Z, hZ⟩ : ∃ Z, w16.heap.size = Z := ⟨_, rfl⟩
                rw [hZ] at Z17 HWZ ⊢
                clear hw17 hZ w16
                have z0 : w17.cell? ⟨Z, 0, none⟩ = some (.slice C5 N cc5) := Z17.out.cell 0
                have f0 := Z17.out.frozen 0
                by_cases h2 : N = 1
                · subst h2
                  go_wp2_with fail
                  go_ret
                  exact ⟨rfl, HB17.out⟩
                have h2I : ¬ (N : Int) < 2 := by omega
                obtain ⟨K, hK⟩ : ∃ K, N - 1 = K := ⟨_, rfl⟩
                rw [hK] at s2
                have hKN : K ≤ N := by omega
                have hKc : N ≤ cc5 := own_cap HOC.out
                have hKc2 : K ≤ cc5 := by omega
                have HCUT := hide (cut_code HOC.out hKN HN.out)
                obtain ⟨g5, cap5, hC5, _, _⟩ := HOC.out.form hN0
                obtain rfl : C5 = some ⟨g5, 0, none⟩ := by injection hC5
                have HK := hide (show K + 1 = N by omega)
                have hKI : (K : Int) ≤ (N : Int) := by omega
                have hK0 : (0 : Int) ≤ (K : Int) := by omega
                have hKcI : (K : Int) ≤ (cc5 : Int) := by omega
                have Z18 := hide (Z17.out.set_ 0 (.slice (some ⟨g5, 0, none⟩) K cc5))
                have oc18 := own_setCell (p := ⟨Z, 0, none⟩) HCUT.out (own_blk_ne HCUT.out Z17.out (by decide)) (.slice (some ⟨g5, 0, none⟩) K cc5)
                have oa18 := own_setCell (p := ⟨Z, 0, none⟩) HOA.out (own_blk_ne HOA.out Z17.out (by decide)) (.slice (some ⟨g5, 0, none⟩) K cc5)
                have HB18 := hide (HB17.out.setCell (p := ⟨Z, 0, none⟩) HWZ.out (.slice (some ⟨g5, 0, none⟩) K cc5))
                have hKl : (cs.take K).length = K := by rw [List.length_take]; have := HN.out; omega
                have C18 := hide (CodeAt.of_own (n := K) oc18 (fun x hx => OKC.out x (List.mem_of_mem_take hx)))
                have A18 := hide (IntAt.of_own oa18 OKA.out)
                clear hK oc18 oa18 hC5
                go_upto_region 28 with (fail)
                obtain ⟨w18, hw18⟩ : ∃ z, w17.setCell ⟨Z, 0, none⟩ (.slice (some ⟨g5, 0, none⟩) K cc5) = z := ⟨_, rfl⟩
                rw [hw18] at Z18 HB18 C18 A18 ⊢
                have MS1 := May_c (some ⟨g5, 0, none⟩) cc5 (cs.take K) vars A5 ca5 l w18 C18.out A18.out (by omega) (by have := HGL.out.2; omega) (HO.out.below HB18.out (Nat.le_refl _))
                rw [hKl] at MS1
                unfold PrV at MS1
                have MS := hide MS1
                clear MS1
                have HKL := hide hKl
                clear hw18 z0 f0 hKl
                have z0 : w18.cell? ⟨Z, 0, none⟩ = some (.slice (some ⟨g5, 0, none⟩) K cc5) := Z18.out.cell 0
                have z1 : w18.cell? ⟨Z, 1, none⟩ = some (.int .i64 vars) := Z18.out.cell 1
                have z2 : w18.cell? ⟨Z, 2, none⟩ = some (.slice A5 l.length ca5) := Z18.out.cell 2
                go_wp2_with fail
                refine MS.out.mono ?_
                rintro e w19 ⟨⟨r19, hr19, rfl⟩, hb19⟩
                have HB19 := hide (HB18.out.trans (hb19.mono HB18.out.size))
                have Z19 := hide (Z18.out.below hb19 Z18.out.lt)
                have C19 := hide (C18.out.below hb19)
                clear hb19 MS z0 z1 z2
                cases r19 with
                | none =>
                  clear hr19
                  go_wp2_with fail
                  go_ret
                  exact ⟨rfl, HB19.out⟩
                | some hs9 =>
                  obtain ⟨hp9, ho9⟩ := hr19.last rfl
                  rw [HKL.out] at hp9 ho9
                  obtain ⟨ad9, e9, -, hc9⟩ := C19.out (by have := HKL.out; omega)
                  injection e9 with e9
                  subst e9
                  obtain ⟨-, h9, -⟩ := hc9 (K - 1) (by have := HKL.out; omega)
                  rw [show ((cs.take K)[K - 1]'(by have := HKL.out; omega)) = (cs.take K).getD (K - 1) default by rw [List.getD_eq_getElem?_getD, List.getElem?_eq_getElem (by have := HKL.out; omega)]; rfl, ho9, Go.WideShapes.add_plain, Nat.zero_add] at h9
                  have s3 : IntKind.i64.wrap ((K : Int) - 1) = ((K - 1 : Nat) : Int) := by rw [IntKind.wrap_i64]; omega
                  obtain ⟨J, hJ⟩ : ∃ J, K - 1 = J := ⟨_, rfl⟩
                  rw [hJ] at h9 s3
                  have hJK : (J : Int) < (K : Int) := by omega
                  have hJK2 : J < K := by omega
                  have z0 : w19.cell? ⟨Z, 0, none⟩ = some (.slice (some ⟨g5, 0, none⟩) K cc5) := Z19.out.cell 0
                  clear hr19 hp9 ho9 hc9 hJ
                  go_wp2_with fail
                  go_ret
                  exact ⟨rfl, HB19.out⟩
          · have hya : 1 ≤ a1 ∧ a1 ≤ 1000 - S := by
              by_cases h : 1 ≤ a1 ∧ a1 ≤ 1000 - S
              · exact h
              · rw [err, if_neg h] at h1; cases h1
            have e1 : hs = hs1 := by rw [err, if_pos hya] at h1; injection h1 with h1
            subst e1
            rw [HN.out]
            have ha := hya.1
            have ha2 := hya.2
            have HR14 := hide hgb
            clear h1 err hya hgb
            go_wp2_with fail
            go_loopw [15] (fun v15 wr => ∃ k : Nat, k ≤ N ∧ v15 = .int .i64 k ∧ Hid (Blk wr g 3 (hI hs).toArray) ∧ Hid (Blk wr W.heap.size 25 #[.slice C cs.length cc, .int .i64 vars, .slice A l.length ca]) ∧ Hid (Blk wr g2 3 (hI hs).toArray) ∧ Hid (Below W.heap.size W wr)) (fun v15 _ => N - (RowKit.intOf v15).toNat)
            case atStart => exact ⟨0, Nat.zero_le _, rfl, HG14, K14, HR14, HB14⟩
            case round =>
              obtain ⟨k, hk, rfl, HG9, K9, HR9, HB9⟩ := hrel
              rename World => wr
              by_cases hlt : k < N
              · have hltI : (k : Int) < (N : Int) := by omega
                have a0 := HG9.out.cell k
                rw [hI_at (by have := HLN.out; omega)] at a0
                have c0 := HR9.out.cell k
                rw [hI_at (by have := HLN.out; omega)] at c0
                obtain ⟨zk, hzk⟩ : ∃ z, hs.getD k 0 = z := ⟨_, rfl⟩
                rw [hzk] at a0 c0
                have zf : (zk != zk) = false := by simp
                clear hzk
                go_wp2_with fail
                go_quiet (fail)
                go_wp2_with fail
                go_roundw
                case rel => exact ⟨k + 1, by omega, by go_num, hide (HG9.out.drewN _), hide (K9.out.drewN _), hide (HR9.out.drewN _), hide (below_drewN HB9.out _)⟩
                case measure => simp [RowKit.intOf] <;> omega
              have hltI : ¬ (k : Int) < (N : Int) := by omega
              have HB14 := HB9
              have K14 := K9
              obtain ⟨w14, hw14⟩ : ∃ z, wr = z := ⟨_, rfl⟩
              subst hw14
              have q0 : wr.cell? ⟨W.heap.size, 0, none⟩ = some (.slice C N cc) := by rw [← HN.out]; exact K9.out.cell 0
              have q1 : wr.cell? ⟨W.heap.size, 1, none⟩ = some (.int .i64 vars) := K9.out.cell 1
              have q2 : wr.cell? ⟨W.heap.size, 2, none⟩ = some (.slice A l.length ca) := K9.out.cell 2
              have CQ1 := CP.out wr (HC.out.below HB9.out) (HA.out.below HB9.out) (by have := HGL.out.1; omega) (by have := HGL.out.2; omega)
              rw [HN.out] at CQ1
              have CQ := hide CQ1
              clear CQ1
              have s2 : IntKind.i64.wrap ((N : Int) - 1) = ((N - 1 : Nat) : Int) := by rw [IntKind.wrap_i64]; omega
              go_wp2_with fail
              refine CQ.out.mono ?_
              rintro e w16 ⟨C5, cc5, A5, ca5, rfl, hown, hb16⟩
              obtain ⟨hoc, hoa⟩ := hown
              rw [HN.out] at hoc
              have hl17 := (Below.refl w16.heap.size w16).alloc (Nat.le_refl _) (.cells #[.slice C5 N cc5, .int .i64 vars, .slice A5 l.length ca5] 25)
              have k17 := Blk.new w16 25 #[.slice C5 N cc5, .int .i64 vars, .slice A5 l.length ca5]
              have HOC := hide (own_belowR hoc hl17)
              have HOA := hide (own_belowR hoa hl17)
              have hb17 := hb16.trans (hl17.mono hb16.size)
              have HB17 := hide (HB9.out.trans (hb17.mono HB9.out.size))
              have HWZ := hide (show W.heap.size ≤ w16.heap.size from Nat.le_trans HB9.out.size hb16.size)
              have Z17 := hide k17
              clear q0 q1 q2 CQ hoc hoa hl17 k17 hb16 hb17
              go_upto_region 25 with (fail)
              obtain ⟨w17, hw17⟩ : ∃ z, w16.alloc (.cells #[.slice C5 N cc5, .int .i64 vars, .slice A5 l.length ca5] 25) = z := ⟨_, rfl⟩
              rw [hw17] at HOC HOA HB17 Z17 ⊢
              obtain ⟨Z, hZ⟩ : ∃ Z, w16.heap.size = Z := ⟨_, rfl⟩
              rw [hZ] at Z17 HWZ ⊢
              clear hw17 hZ w16
              have z0 : w17.cell? ⟨Z, 0, none⟩ = some (.slice C5 N cc5) := Z17.out.cell 0
              have f0 := Z17.out.frozen 0
              by_cases h2 : N = 1
              · subst h2
                go_wp2_with fail
                go_ret
                exact ⟨rfl, HB17.out⟩
              have h2I : ¬ (N : Int) < 2 := by omega
              obtain ⟨K, hK⟩ : ∃ K, N - 1 = K := ⟨_, rfl⟩
              rw [hK] at s2
              have hKN : K ≤ N := by omega
              have hKc : N ≤ cc5 := own_cap HOC.out
              have hKc2 : K ≤ cc5 := by omega
              have HCUT := hide (cut_code HOC.out hKN HN.out)
              obtain ⟨g5, cap5, hC5, _, _⟩ := HOC.out.form hN0
              obtain rfl : C5 = some ⟨g5, 0, none⟩ := by injection hC5
              have HK := hide (show K + 1 = N by omega)
              have hKI : (K : Int) ≤ (N : Int) := by omega
              have hK0 : (0 : Int) ≤ (K : Int) := by omega
              have hKcI : (K : Int) ≤ (cc5 : Int) := by omega
              have Z18 := hide (Z17.out.set_ 0 (.slice (some ⟨g5, 0, none⟩) K cc5))
              have oc18 := own_setCell (p := ⟨Z, 0, none⟩) HCUT.out (own_blk_ne HCUT.out Z17.out (by decide)) (.slice (some ⟨g5, 0, none⟩) K cc5)
              have oa18 := own_setCell (p := ⟨Z, 0, none⟩) HOA.out (own_blk_ne HOA.out Z17.out (by decide)) (.slice (some ⟨g5, 0, none⟩) K cc5)
              have HB18 := hide (HB17.out.setCell (p := ⟨Z, 0, none⟩) HWZ.out (.slice (some ⟨g5, 0, none⟩) K cc5))
              have hKl : (cs.take K).length = K := by rw [List.length_take]; have := HN.out; omega
              have C18 := hide (CodeAt.of_own (n := K) oc18 (fun x hx => OKC.out x (List.mem_of_mem_take hx)))
              have A18 := hide (IntAt.of_own oa18 OKA.out)
              clear hK oc18 oa18 hC5
              go_upto_region 28 with (fail)
              obtain ⟨w18, hw18⟩ : ∃ z, w17.setCell ⟨Z, 0, none⟩ (.slice (some ⟨g5, 0, none⟩) K cc5) = z := ⟨_, rfl⟩
              rw [hw18] at Z18 HB18 C18 A18 ⊢
              have MS1 := May_c (some ⟨g5, 0, none⟩) cc5 (cs.take K) vars A5 ca5 l w18 C18.out A18.out (by omega) (by have := HGL.out.2; omega) (HO.out.below HB18.out (Nat.le_refl _))
              rw [hKl] at MS1
              unfold PrV at MS1
              have MS := hide MS1
              clear MS1
              have HKL := hide hKl
              clear hw18 z0 f0 hKl
              have z0 : w18.cell? ⟨Z, 0, none⟩ = some (.slice (some ⟨g5, 0, none⟩) K cc5) := Z18.out.cell 0
              have z1 : w18.cell? ⟨Z, 1, none⟩ = some (.int .i64 vars) := Z18.out.cell 1
              have z2 : w18.cell? ⟨Z, 2, none⟩ = some (.slice A5 l.length ca5) := Z18.out.cell 2
              go_wp2_with fail
              refine MS.out.mono ?_
              rintro e w19 ⟨⟨r19, hr19, rfl⟩, hb19⟩
              have HB19 := hide (HB18.out.trans (hb19.mono HB18.out.size))
              have Z19 := hide (Z18.out.below hb19 Z18.out.lt)
              have C19 := hide (C18.out.below hb19)
              clear hb19 MS z0 z1 z2
              cases r19 with
              | none =>
                clear hr19
                go_wp2_with fail
                go_ret
                exact ⟨rfl, HB19.out⟩
              | some hs9 =>
                obtain ⟨hp9, ho9⟩ := hr19.last rfl
                rw [HKL.out] at hp9 ho9
                obtain ⟨ad9, e9, -, hc9⟩ := C19.out (by have := HKL.out; omega)
                injection e9 with e9
                subst e9
                obtain ⟨-, h9, -⟩ := hc9 (K - 1) (by have := HKL.out; omega)
                rw [show ((cs.take K)[K - 1]'(by have := HKL.out; omega)) = (cs.take K).getD (K - 1) default by rw [List.getD_eq_getElem?_getD, List.getElem?_eq_getElem (by have := HKL.out; omega)]; rfl, ho9, Go.WideShapes.add_plain, Nat.zero_add] at h9
                have s3 : IntKind.i64.wrap ((K : Int) - 1) = ((K - 1 : Nat) : Int) := by rw [IntKind.wrap_i64]; omega
                obtain ⟨J, hJ⟩ : ∃ J, K - 1 = J := ⟨_, rfl⟩
                rw [hJ] at h9 s3
                have hJK : (J : Int) < (K : Int) := by omega
                have hJK2 : J < K := by omega
                have z0 : w19.cell? ⟨Z, 0, none⟩ = some (.slice (some ⟨g5, 0, none⟩) K cc5) := Z19.out.cell 0
                clear hr19 hp9 ho9 hc9 hJ
                go_wp2_with fail
                go_ret
                exact ⟨rfl, HB19.out⟩
        · have hv : vars < 64 := by
            by_cases h : vars < 64
            · exact h
            · rw [ERQ.out, if_neg h] at h1; cases h1
          have e1 : hs = hs1 := by rw [ERQ.out, if_pos hv] at h1; injection h1 with h1
          subst e1
          rw [HN.out]
          have HQB := hide hgb
          clear h1 HHQ ERQ hgb
          go_wp2_with fail
          refine HQR.out.mono ?_
          rintro e w14 ⟨⟨rr, hrr, hhr⟩, hb14⟩
          have err := HtR.det hrr RR.out
          have HB14 := hide (HB13.out.trans (hb14.mono HB13.out.size))
          have HG14 := hide (HG13.out.below hb14 HG13.out.lt)
          have K14 := hide (K13.out.below hb14 K13.out.lt)
          have HQ14 := hide (HQB.out.below hb14 HQB.out.lt)
          clear hb14 HB13 HG13 K13 Y13 y0 y1 y2 HQR hrr
          have q1 : w14.cell? ⟨W.heap.size, 1, none⟩ = some (.int .i64 vars) := K14.out.cell 1
          rcases hhr with ⟨h1, rfl⟩ | ⟨hs1, g2, h1, _, _, rfl, _, hgb⟩
          · have hna : ¬ (1 ≤ a1 ∧ a1 ≤ 1000 - S) := fun h => by rw [err, if_pos h] at h1; cases h1
            clear h1 err
            by_cases ha : 1 ≤ a1
            · have hna : ¬ a1 ≤ 1000 - S := fun h => hna ⟨ha, h⟩
              go_wp2_with fail
              go_loopw [15] (fun v15 wr => ∃ k : Nat, k ≤ N ∧ v15 = .int .i64 k ∧ Hid (Blk wr g 3 (hI hs).toArray) ∧ Hid (Blk wr W.heap.size 25 #[.slice C cs.length cc, .int .i64 vars, .slice A l.length ca]) ∧ Hid (Blk wr g1 3 (hI hs).toArray) ∧ Hid (Below W.heap.size W wr)) (fun v15 _ => N - (RowKit.intOf v15).toNat)
              case atStart => exact ⟨0, Nat.zero_le _, rfl, HG14, K14, HQ14, HB14⟩
              case round =>
                obtain ⟨k, hk, rfl, HG9, K9, HQ9, HB9⟩ := hrel
                rename World => wr
                by_cases hlt : k < N
                · have hltI : (k : Int) < (N : Int) := by omega
                  have a0 := HG9.out.cell k
                  rw [hI_at (by have := HLN.out; omega)] at a0
                  have b0 := HQ9.out.cell k
                  rw [hI_at (by have := HLN.out; omega)] at b0
                  obtain ⟨zk, hzk⟩ : ∃ z, hs.getD k 0 = z := ⟨_, rfl⟩
                  rw [hzk] at a0 b0
                  have zf : (zk != zk) = false := by simp
                  clear hzk
                  go_wp2_with fail
                  go_quiet (fail)
                  go_wp2_with fail
                  go_roundw
                  case rel => exact ⟨k + 1, by omega, by go_num, hide (HG9.out.drewN _), hide (K9.out.drewN _), hide (HQ9.out.drewN _), hide (below_drewN HB9.out _)⟩
                  case measure => simp [RowKit.intOf] <;> omega
                have hltI : ¬ (k : Int) < (N : Int) := by omega
                have HB14 := HB9
                have K14 := K9
                obtain ⟨w14, hw14⟩ : ∃ z, wr = z := ⟨_, rfl⟩
                subst hw14
                have q0 : wr.cell? ⟨W.heap.size, 0, none⟩ = some (.slice C N cc) := by rw [← HN.out]; exact K9.out.cell 0
                have q1 : wr.cell? ⟨W.heap.size, 1, none⟩ = some (.int .i64 vars) := K9.out.cell 1
                have q2 : wr.cell? ⟨W.heap.size, 2, none⟩ = some (.slice A l.length ca) := K9.out.cell 2
                have CQ1 := CP.out wr (HC.out.below HB9.out) (HA.out.below HB9.out) (by have := HGL.out.1; omega) (by have := HGL.out.2; omega)
                rw [HN.out] at CQ1
                have CQ := hide CQ1
                clear CQ1
                have s2 : IntKind.i64.wrap ((N : Int) - 1) = ((N - 1 : Nat) : Int) := by rw [IntKind.wrap_i64]; omega
                go_wp2_with fail
                refine CQ.out.mono ?_
                rintro e w16 ⟨C5, cc5, A5, ca5, rfl, hown, hb16⟩
                obtain ⟨hoc, hoa⟩ := hown
                rw [HN.out] at hoc
                have hl17 := (Below.refl w16.heap.size w16).alloc (Nat.le_refl _) (.cells #[.slice C5 N cc5, .int .i64 vars, .slice A5 l.length ca5] 25)
                have k17 := Blk.new w16 25 #[.slice C5 N cc5, .int .i64 vars, .slice A5 l.length ca5]
                have HOC := hide (own_belowR hoc hl17)
                have HOA := hide (own_belowR hoa hl17)
                have hb17 := hb16.trans (hl17.mono hb16.size)
                have HB17 := hide (HB9.out.trans (hb17.mono HB9.out.size))
                have HWZ := hide (show W.heap.size ≤ w16.heap.size from Nat.le_trans HB9.out.size hb16.size)
                have Z17 := hide k17
                clear q0 q1 q2 CQ hoc hoa hl17 k17 hb16 hb17
                go_upto_region 25 with (fail)
                obtain ⟨w17, hw17⟩ : ∃ z, w16.alloc (.cells #[.slice C5 N cc5, .int .i64 vars, .slice A5 l.length ca5] 25) = z := ⟨_, rfl⟩
                rw [hw17] at HOC HOA HB17 Z17 ⊢
                obtain ⟨Z, hZ⟩ : ∃ Z, w16.heap.size = Z := ⟨_, rfl⟩
                rw [hZ] at Z17 HWZ ⊢
                clear hw17 hZ w16
                have z0 : w17.cell? ⟨Z, 0, none⟩ = some (.slice C5 N cc5) := Z17.out.cell 0
                have f0 := Z17.out.frozen 0
                by_cases h2 : N = 1
                · subst h2
                  go_wp2_with fail
                  go_ret
                  exact ⟨rfl, HB17.out⟩
                have h2I : ¬ (N : Int) < 2 := by omega
                obtain ⟨K, hK⟩ : ∃ K, N - 1 = K := ⟨_, rfl⟩
                rw [hK] at s2
                have hKN : K ≤ N := by omega
                have hKc : N ≤ cc5 := own_cap HOC.out
                have hKc2 : K ≤ cc5 := by omega
                have HCUT := hide (cut_code HOC.out hKN HN.out)
                obtain ⟨g5, cap5, hC5, _, _⟩ := HOC.out.form hN0
                obtain rfl : C5 = some ⟨g5, 0, none⟩ := by injection hC5
                have HK := hide (show K + 1 = N by omega)
                have hKI : (K : Int) ≤ (N : Int) := by omega
                have hK0 : (0 : Int) ≤ (K : Int) := by omega
                have hKcI : (K : Int) ≤ (cc5 : Int) := by omega
                have Z18 := hide (Z17.out.set_ 0 (.slice (some ⟨g5, 0, none⟩) K cc5))
                have oc18 := own_setCell (p := ⟨Z, 0, none⟩) HCUT.out (own_blk_ne HCUT.out Z17.out (by decide)) (.slice (some ⟨g5, 0, none⟩) K cc5)
                have oa18 := own_setCell (p := ⟨Z, 0, none⟩) HOA.out (own_blk_ne HOA.out Z17.out (by decide)) (.slice (some ⟨g5, 0, none⟩) K cc5)
                have HB18 := hide (HB17.out.setCell (p := ⟨Z, 0, none⟩) HWZ.out (.slice (some ⟨g5, 0, none⟩) K cc5))
                have hKl : (cs.take K).length = K := by rw [List.length_take]; have := HN.out; omega
                have C18 := hide (CodeAt.of_own (n := K) oc18 (fun x hx => OKC.out x (List.mem_of_mem_take hx)))
                have A18 := hide (IntAt.of_own oa18 OKA.out)
                clear hK oc18 oa18 hC5
                go_upto_region 28 with (fail)
                obtain ⟨w18, hw18⟩ : ∃ z, w17.setCell ⟨Z, 0, none⟩ (.slice (some ⟨g5, 0, none⟩) K cc5) = z := ⟨_, rfl⟩
                rw [hw18] at Z18 HB18 C18 A18 ⊢
                have MS1 := May_c (some ⟨g5, 0, none⟩) cc5 (cs.take K) vars A5 ca5 l w18 C18.out A18.out (by omega) (by have := HGL.out.2; omega) (HO.out.below HB18.out (Nat.le_refl _))
                rw [hKl] at MS1
                unfold PrV at MS1
                have MS := hide MS1
                clear MS1
                have HKL := hide hKl
                clear hw18 z0 f0 hKl
                have z0 : w18.cell? ⟨Z, 0, none⟩ = some (.slice (some ⟨g5, 0, none⟩) K cc5) := Z18.out.cell 0
                have z1 : w18.cell? ⟨Z, 1, none⟩ = some (.int .i64 vars) := Z18.out.cell 1
                have z2 : w18.cell? ⟨Z, 2, none⟩ = some (.slice A5 l.length ca5) := Z18.out.cell 2
                go_wp2_with fail
                refine MS.out.mono ?_
                rintro e w19 ⟨⟨r19, hr19, rfl⟩, hb19⟩
                have HB19 := hide (HB18.out.trans (hb19.mono HB18.out.size))
                have Z19 := hide (Z18.out.below hb19 Z18.out.lt)
                have C19 := hide (C18.out.below hb19)
                clear hb19 MS z0 z1 z2
                cases r19 with
                | none =>
                  clear hr19
                  go_wp2_with fail
                  go_ret
                  exact ⟨rfl, HB19.out⟩
                | some hs9 =>
                  obtain ⟨hp9, ho9⟩ := hr19.last rfl
                  rw [HKL.out] at hp9 ho9
                  obtain ⟨ad9, e9, -, hc9⟩ := C19.out (by have := HKL.out; omega)
                  injection e9 with e9
                  subst e9
                  obtain ⟨-, h9, -⟩ := hc9 (K - 1) (by have := HKL.out; omega)
                  rw [show ((cs.take K)[K - 1]'(by have := HKL.out; omega)) = (cs.take K).getD (K - 1) default by rw [List.getD_eq_getElem?_getD, List.getElem?_eq_getElem (by have := HKL.out; omega)]; rfl, ho9, Go.WideShapes.add_plain, Nat.zero_add] at h9
                  have s3 : IntKind.i64.wrap ((K : Int) - 1) = ((K - 1 : Nat) : Int) := by rw [IntKind.wrap_i64]; omega
                  obtain ⟨J, hJ⟩ : ∃ J, K - 1 = J := ⟨_, rfl⟩
                  rw [hJ] at h9 s3
                  have hJK : (J : Int) < (K : Int) := by omega
                  have hJK2 : J < K := by omega
                  have z0 : w19.cell? ⟨Z, 0, none⟩ = some (.slice (some ⟨g5, 0, none⟩) K cc5) := Z19.out.cell 0
                  clear hr19 hp9 ho9 hc9 hJ
                  go_wp2_with fail
                  go_ret
                  exact ⟨rfl, HB19.out⟩
            · clear hna
              go_wp2_with fail
              go_loopw [15] (fun v15 wr => ∃ k : Nat, k ≤ N ∧ v15 = .int .i64 k ∧ Hid (Blk wr g 3 (hI hs).toArray) ∧ Hid (Blk wr W.heap.size 25 #[.slice C cs.length cc, .int .i64 vars, .slice A l.length ca]) ∧ Hid (Blk wr g1 3 (hI hs).toArray) ∧ Hid (Below W.heap.size W wr)) (fun v15 _ => N - (RowKit.intOf v15).toNat)
              case atStart => exact ⟨0, Nat.zero_le _, rfl, HG14, K14, HQ14, HB14⟩
              case round =>
                obtain ⟨k, hk, rfl, HG9, K9, HQ9, HB9⟩ := hrel
                rename World => wr
                by_cases hlt : k < N
                · have hltI : (k : Int) < (N : Int) := by omega
                  have a0 := HG9.out.cell k
                  rw [hI_at (by have := HLN.out; omega)] at a0
                  have b0 := HQ9.out.cell k
                  rw [hI_at (by have := HLN.out; omega)] at b0
                  obtain ⟨zk, hzk⟩ : ∃ z, hs.getD k 0 = z := ⟨_, rfl⟩
                  rw [hzk] at a0 b0
                  have zf : (zk != zk) = false := by simp
                  clear hzk
                  go_wp2_with fail
                  go_quiet (fail)
                  go_wp2_with fail
                  go_roundw
                  case rel => exact ⟨k + 1, by omega, by go_num, hide (HG9.out.drewN _), hide (K9.out.drewN _), hide (HQ9.out.drewN _), hide (below_drewN HB9.out _)⟩
                  case measure => simp [RowKit.intOf] <;> omega
                have hltI : ¬ (k : Int) < (N : Int) := by omega
                have HB14 := HB9
                have K14 := K9
                obtain ⟨w14, hw14⟩ : ∃ z, wr = z := ⟨_, rfl⟩
                subst hw14
                have q0 : wr.cell? ⟨W.heap.size, 0, none⟩ = some (.slice C N cc) := by rw [← HN.out]; exact K9.out.cell 0
                have q1 : wr.cell? ⟨W.heap.size, 1, none⟩ = some (.int .i64 vars) := K9.out.cell 1
                have q2 : wr.cell? ⟨W.heap.size, 2, none⟩ = some (.slice A l.length ca) := K9.out.cell 2
                have CQ1 := CP.out wr (HC.out.below HB9.out) (HA.out.below HB9.out) (by have := HGL.out.1; omega) (by have := HGL.out.2; omega)
                rw [HN.out] at CQ1
                have CQ := hide CQ1
                clear CQ1
                have s2 : IntKind.i64.wrap ((N : Int) - 1) = ((N - 1 : Nat) : Int) := by rw [IntKind.wrap_i64]; omega
                go_wp2_with fail
                refine CQ.out.mono ?_
                rintro e w16 ⟨C5, cc5, A5, ca5, rfl, hown, hb16⟩
                obtain ⟨hoc, hoa⟩ := hown
                rw [HN.out] at hoc
                have hl17 := (Below.refl w16.heap.size w16).alloc (Nat.le_refl _) (.cells #[.slice C5 N cc5, .int .i64 vars, .slice A5 l.length ca5] 25)
                have k17 := Blk.new w16 25 #[.slice C5 N cc5, .int .i64 vars, .slice A5 l.length ca5]
                have HOC := hide (own_belowR hoc hl17)
                have HOA := hide (own_belowR hoa hl17)
                have hb17 := hb16.trans (hl17.mono hb16.size)
                have HB17 := hide (HB9.out.trans (hb17.mono HB9.out.size))
                have HWZ := hide (show W.heap.size ≤ w16.heap.size from Nat.le_trans HB9.out.size hb16.size)
                have Z17 := hide k17
                clear q0 q1 q2 CQ hoc hoa hl17 k17 hb16 hb17
                go_upto_region 25 with (fail)
                obtain ⟨w17, hw17⟩ : ∃ z, w16.alloc (.cells #[.slice C5 N cc5, .int .i64 vars, .slice A5 l.length ca5] 25) = z := ⟨_, rfl⟩
                rw [hw17] at HOC HOA HB17 Z17 ⊢
                obtain ⟨Z, hZ⟩ : ∃ Z, w16.heap.size = Z := ⟨_, rfl⟩
                rw [hZ] at Z17 HWZ ⊢
                clear hw17 hZ w16
                have z0 : w17.cell? ⟨Z, 0, none⟩ = some (.slice C5 N cc5) := Z17.out.cell 0
                have f0 := Z17.out.frozen 0
                by_cases h2 : N = 1
                · subst h2
                  go_wp2_with fail
                  go_ret
                  exact ⟨rfl, HB17.out⟩
                have h2I : ¬ (N : Int) < 2 := by omega
                obtain ⟨K, hK⟩ : ∃ K, N - 1 = K := ⟨_, rfl⟩
                rw [hK] at s2
                have hKN : K ≤ N := by omega
                have hKc : N ≤ cc5 := own_cap HOC.out
                have hKc2 : K ≤ cc5 := by omega
                have HCUT := hide (cut_code HOC.out hKN HN.out)
                obtain ⟨g5, cap5, hC5, _, _⟩ := HOC.out.form hN0
                obtain rfl : C5 = some ⟨g5, 0, none⟩ := by injection hC5
                have HK := hide (show K + 1 = N by omega)
                have hKI : (K : Int) ≤ (N : Int) := by omega
                have hK0 : (0 : Int) ≤ (K : Int) := by omega
                have hKcI : (K : Int) ≤ (cc5 : Int) := by omega
                have Z18 := hide (Z17.out.set_ 0 (.slice (some ⟨g5, 0, none⟩) K cc5))
                have oc18 := own_setCell (p := ⟨Z, 0, none⟩) HCUT.out (own_blk_ne HCUT.out Z17.out (by decide)) (.slice (some ⟨g5, 0, none⟩) K cc5)
                have oa18 := own_setCell (p := ⟨Z, 0, none⟩) HOA.out (own_blk_ne HOA.out Z17.out (by decide)) (.slice (some ⟨g5, 0, none⟩) K cc5)
                have HB18 := hide (HB17.out.setCell (p := ⟨Z, 0, none⟩) HWZ.out (.slice (some ⟨g5, 0, none⟩) K cc5))
                have hKl : (cs.take K).length = K := by rw [List.length_take]; have := HN.out; omega
                have C18 := hide (CodeAt.of_own (n := K) oc18 (fun x hx => OKC.out x (List.mem_of_mem_take hx)))
                have A18 := hide (IntAt.of_own oa18 OKA.out)
                clear hK oc18 oa18 hC5
                go_upto_region 28 with (fail)
                obtain ⟨w18, hw18⟩ : ∃ z, w17.setCell ⟨Z, 0, none⟩ (.slice (some ⟨g5, 0, none⟩) K cc5) = z := ⟨_, rfl⟩
                rw [hw18] at Z18 HB18 C18 A18 ⊢
                have MS1 := May_c (some ⟨g5, 0, none⟩) cc5 (cs.take K) vars A5 ca5 l w18 C18.out A18.out (by omega) (by have := HGL.out.2; omega) (HO.out.below HB18.out (Nat.le_refl _))
                rw [hKl] at MS1
                unfold PrV at MS1
                have MS := hide MS1
                clear MS1
                have HKL := hide hKl
                clear hw18 z0 f0 hKl
                have z0 : w18.cell? ⟨Z, 0, none⟩ = some (.slice (some ⟨g5, 0, none⟩) K cc5) := Z18.out.cell 0
                have z1 : w18.cell? ⟨Z, 1, none⟩ = some (.int .i64 vars) := Z18.out.cell 1
                have z2 : w18.cell? ⟨Z, 2, none⟩ = some (.slice A5 l.length ca5) := Z18.out.cell 2
                go_wp2_with fail
                refine MS.out.mono ?_
                rintro e w19 ⟨⟨r19, hr19, rfl⟩, hb19⟩
                have HB19 := hide (HB18.out.trans (hb19.mono HB18.out.size))
                have Z19 := hide (Z18.out.below hb19 Z18.out.lt)
                have C19 := hide (C18.out.below hb19)
                clear hb19 MS z0 z1 z2
                cases r19 with
                | none =>
                  clear hr19
                  go_wp2_with fail
                  go_ret
                  exact ⟨rfl, HB19.out⟩
                | some hs9 =>
                  obtain ⟨hp9, ho9⟩ := hr19.last rfl
                  rw [HKL.out] at hp9 ho9
                  obtain ⟨ad9, e9, -, hc9⟩ := C19.out (by have := HKL.out; omega)
                  injection e9 with e9
                  subst e9
                  obtain ⟨-, h9, -⟩ := hc9 (K - 1) (by have := HKL.out; omega)
                  rw [show ((cs.take K)[K - 1]'(by have := HKL.out; omega)) = (cs.take K).getD (K - 1) default by rw [List.getD_eq_getElem?_getD, List.getElem?_eq_getElem (by have := HKL.out; omega)]; rfl, ho9, Go.WideShapes.add_plain, Nat.zero_add] at h9
                  have s3 : IntKind.i64.wrap ((K : Int) - 1) = ((K - 1 : Nat) : Int) := by rw [IntKind.wrap_i64]; omega
                  obtain ⟨J, hJ⟩ : ∃ J, K - 1 = J := ⟨_, rfl⟩
                  rw [hJ] at h9 s3
                  have hJK : (J : Int) < (K : Int) := by omega
                  have hJK2 : J < K := by omega
                  have z0 : w19.cell? ⟨Z, 0, none⟩ = some (.slice (some ⟨g5, 0, none⟩) K cc5) := Z19.out.cell 0
                  clear hr19 hp9 ho9 hc9 hJ
                  go_wp2_with fail
                  go_ret
                  exact ⟨rfl, HB19.out⟩
          · have hya : 1 ≤ a1 ∧ a1 ≤ 1000 - S := by
              by_cases h : 1 ≤ a1 ∧ a1 ≤ 1000 - S
              · exact h
              · rw [err, if_neg h] at h1; cases h1
            have e1 : hs = hs1 := by rw [err, if_pos hya] at h1; injection h1 with h1
            subst e1
            rw [HN.out]
            have ha := hya.1
            have ha2 := hya.2
            have HR14 := hide hgb
            clear h1 err hya hgb
            go_wp2_with fail
            go_loopw [15] (fun v15 wr => ∃ k : Nat, k ≤ N ∧ v15 = .int .i64 k ∧ Hid (Blk wr g 3 (hI hs).toArray) ∧ Hid (Blk wr W.heap.size 25 #[.slice C cs.length cc, .int .i64 vars, .slice A l.length ca]) ∧ Hid (Blk wr g1 3 (hI hs).toArray) ∧ Hid (Blk wr g2 3 (hI hs).toArray) ∧ Hid (Below W.heap.size W wr)) (fun v15 _ => N - (RowKit.intOf v15).toNat)
            case atStart => exact ⟨0, Nat.zero_le _, rfl, HG14, K14, HQ14, HR14, HB14⟩
            case round =>
              obtain ⟨k, hk, rfl, HG9, K9, HQ9, HR9, HB9⟩ := hrel
              rename World => wr
              by_cases hlt : k < N
              · have hltI : (k : Int) < (N : Int) := by omega
                have a0 := HG9.out.cell k
                rw [hI_at (by have := HLN.out; omega)] at a0
                have b0 := HQ9.out.cell k
                rw [hI_at (by have := HLN.out; omega)] at b0
                have c0 := HR9.out.cell k
                rw [hI_at (by have := HLN.out; omega)] at c0
                obtain ⟨zk, hzk⟩ : ∃ z, hs.getD k 0 = z := ⟨_, rfl⟩
                rw [hzk] at a0 b0 c0
                have zf : (zk != zk) = false := by simp
                clear hzk
                go_wp2_with fail
                go_quiet (fail)
                go_wp2_with fail
                go_roundw
                case rel => exact ⟨k + 1, by omega, by go_num, hide (HG9.out.drewN _), hide (K9.out.drewN _), hide (HQ9.out.drewN _), hide (HR9.out.drewN _), hide (below_drewN HB9.out _)⟩
                case measure => simp [RowKit.intOf] <;> omega
              have hltI : ¬ (k : Int) < (N : Int) := by omega
              have HB14 := HB9
              have K14 := K9
              obtain ⟨w14, hw14⟩ : ∃ z, wr = z := ⟨_, rfl⟩
              subst hw14
              have q0 : wr.cell? ⟨W.heap.size, 0, none⟩ = some (.slice C N cc) := by rw [← HN.out]; exact K9.out.cell 0
              have q1 : wr.cell? ⟨W.heap.size, 1, none⟩ = some (.int .i64 vars) := K9.out.cell 1
              have q2 : wr.cell? ⟨W.heap.size, 2, none⟩ = some (.slice A l.length ca) := K9.out.cell 2
              have CQ1 := CP.out wr (HC.out.below HB9.out) (HA.out.below HB9.out) (by have := HGL.out.1; omega) (by have := HGL.out.2; omega)
              rw [HN.out] at CQ1
              have CQ := hide CQ1
              clear CQ1
              have s2 : IntKind.i64.wrap ((N : Int) - 1) = ((N - 1 : Nat) : Int) := by rw [IntKind.wrap_i64]; omega
              go_wp2_with fail
              refine CQ.out.mono ?_
              rintro e w16 ⟨C5, cc5, A5, ca5, rfl, hown, hb16⟩
              obtain ⟨hoc, hoa⟩ := hown
              rw [HN.out] at hoc
              have hl17 := (Below.refl w16.heap.size w16).alloc (Nat.le_refl _) (.cells #[.slice C5 N cc5, .int .i64 vars, .slice A5 l.length ca5] 25)
              have k17 := Blk.new w16 25 #[.slice C5 N cc5, .int .i64 vars, .slice A5 l.length ca5]
              have HOC := hide (own_belowR hoc hl17)
              have HOA := hide (own_belowR hoa hl17)
              have hb17 := hb16.trans (hl17.mono hb16.size)
              have HB17 := hide (HB9.out.trans (hb17.mono HB9.out.size))
              have HWZ := hide (show W.heap.size ≤ w16.heap.size from Nat.le_trans HB9.out.size hb16.size)
              have Z17 := hide k17
              clear q0 q1 q2 CQ hoc hoa hl17 k17 hb16 hb17
              go_upto_region 25 with (fail)
              obtain ⟨w17, hw17⟩ : ∃ z, w16.alloc (.cells #[.slice C5 N cc5, .int .i64 vars, .slice A5 l.length ca5] 25) = z := ⟨_, rfl⟩
              rw [hw17] at HOC HOA HB17 Z17 ⊢
              obtain ⟨Z, hZ⟩ : ∃ Z, w16.heap.size = Z := ⟨_, rfl⟩
              rw [hZ] at Z17 HWZ ⊢
              clear hw17 hZ w16
              have z0 : w17.cell? ⟨Z, 0, none⟩ = some (.slice C5 N cc5) := Z17.out.cell 0
              have f0 := Z17.out.frozen 0
              by_cases h2 : N = 1
              · subst h2
                go_wp2_with fail
                go_ret
                exact ⟨rfl, HB17.out⟩
              have h2I : ¬ (N : Int) < 2 := by omega
              obtain ⟨K, hK⟩ : ∃ K, N - 1 = K := ⟨_, rfl⟩
              rw [hK] at s2
              have hKN : K ≤ N := by omega
              have hKc : N ≤ cc5 := own_cap HOC.out
              have hKc2 : K ≤ cc5 := by omega
              have HCUT := hide (cut_code HOC.out hKN HN.out)
              obtain ⟨g5, cap5, hC5, _, _⟩ := HOC.out.form hN0
              obtain rfl : C5 = some ⟨g5, 0, none⟩ := by injection hC5
              have HK := hide (show K + 1 = N by omega)
              have hKI : (K : Int) ≤ (N : Int) := by omega
              have hK0 : (0 : Int) ≤ (K : Int) := by omega
              have hKcI : (K : Int) ≤ (cc5 : Int) := by omega
              have Z18 := hide (Z17.out.set_ 0 (.slice (some ⟨g5, 0, none⟩) K cc5))
              have oc18 := own_setCell (p := ⟨Z, 0, none⟩) HCUT.out (own_blk_ne HCUT.out Z17.out (by decide)) (.slice (some ⟨g5, 0, none⟩) K cc5)
              have oa18 := own_setCell (p := ⟨Z, 0, none⟩) HOA.out (own_blk_ne HOA.out Z17.out (by decide)) (.slice (some ⟨g5, 0, none⟩) K cc5)
              have HB18 := hide (HB17.out.setCell (p := ⟨Z, 0, none⟩) HWZ.out (.slice (some ⟨g5, 0, none⟩) K cc5))
              have hKl : (cs.take K).length = K := by rw [List.length_take]; have := HN.out; omega
              have C18 := hide (CodeAt.of_own (n := K) oc18 (fun x hx => OKC.out x (List.mem_of_mem_take hx)))
              have A18 := hide (IntAt.of_own oa18 OKA.out)
              clear hK oc18 oa18 hC5
              go_upto_region 28 with (fail)
              obtain ⟨w18, hw18⟩ : ∃ z, w17.setCell ⟨Z, 0, none⟩ (.slice (some ⟨g5, 0, none⟩) K cc5) = z := ⟨_, rfl⟩
              rw [hw18] at Z18 HB18 C18 A18 ⊢
              have MS1 := May_c (some ⟨g5, 0, none⟩) cc5 (cs.take K) vars A5 ca5 l w18 C18.out A18.out (by omega) (by have := HGL.out.2; omega) (HO.out.below HB18.out (Nat.le_refl _))
              rw [hKl] at MS1
              unfold PrV at MS1
              have MS := hide MS1
              clear MS1
              have HKL := hide hKl
              clear hw18 z0 f0 hKl
              have z0 : w18.cell? ⟨Z, 0, none⟩ = some (.slice (some ⟨g5, 0, none⟩) K cc5) := Z18.out.cell 0
              have z1 : w18.cell? ⟨Z, 1, none⟩ = some (.int .i64 vars) := Z18.out.cell 1
              have z2 : w18.cell? ⟨Z, 2, none⟩ = some (.slice A5 l.length ca5) := Z18.out.cell 2
              go_wp2_with fail
              refine MS.out.mono ?_
              rintro e w19 ⟨⟨r19, hr19, rfl⟩, hb19⟩
              have HB19 := hide (HB18.out.trans (hb19.mono HB18.out.size))
              have Z19 := hide (Z18.out.below hb19 Z18.out.lt)
              have C19 := hide (C18.out.below hb19)
              clear hb19 MS z0 z1 z2
              cases r19 with
              | none =>
                clear hr19
                go_wp2_with fail
                go_ret
                exact ⟨rfl, HB19.out⟩
              | some hs9 =>
                obtain ⟨hp9, ho9⟩ := hr19.last rfl
                rw [HKL.out] at hp9 ho9
                obtain ⟨ad9, e9, -, hc9⟩ := C19.out (by have := HKL.out; omega)
                injection e9 with e9
                subst e9
                obtain ⟨-, h9, -⟩ := hc9 (K - 1) (by have := HKL.out; omega)
                rw [show ((cs.take K)[K - 1]'(by have := HKL.out; omega)) = (cs.take K).getD (K - 1) default by rw [List.getD_eq_getElem?_getD, List.getElem?_eq_getElem (by have := HKL.out; omega)]; rfl, ho9, Go.WideShapes.add_plain, Nat.zero_add] at h9
                have s3 : IntKind.i64.wrap ((K : Int) - 1) = ((K - 1 : Nat) : Int) := by rw [IntKind.wrap_i64]; omega
                obtain ⟨J, hJ⟩ : ∃ J, K - 1 = J := ⟨_, rfl⟩
                rw [hJ] at h9 s3
                have hJK : (J : Int) < (K : Int) := by omega
                have hJK2 : J < K := by omega
                have z0 : w19.cell? ⟨Z, 0, none⟩ = some (.slice (some ⟨g5, 0, none⟩) K cc5) := Z19.out.cell 0
                clear hr19 hp9 ho9 hc9 hJ
                go_wp2_with fail
                go_ret
                exact ⟨rfl, HB19.out⟩
end Go.Proofs.YtegpimaakgledaaDoor.CodeMoreW
