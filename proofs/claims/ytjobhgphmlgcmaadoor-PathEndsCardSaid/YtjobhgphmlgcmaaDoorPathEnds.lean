/- The walk of the statement PathEnds: of any acts; without conditions. -/
import Derived.Test.YtjobhgphmlgcmaaDoorRows
import Derived.Test.YtjobhgphmlgcmaaDoorPathX
import Derived.Test.YtjobhgphmlgcmaaDoorRelS
import Derived.LoopN
import Derived.Deep.CutRange
namespace Go.Proofs.YtjobhgphmlgcmaaDoor.PathEndsW
open Go Go.Joins Go.ChangeShapes Go.WideShapes Go.RowKit Go.Deep Go.Proofs.YtjobhgphmlgcmaaDoor Go.Proofs.YtjobhgphmlgcmaaDoor.Pth Go.Proofs.YtjobhgphmlgcmaaDoor.PathTextsW
set_option linter.unusedVariables false
set_option linter.unusedSimpArgs false
/-- What Push leaves. -/
def PostE (b : Bool) (ls : List Lv) (r c : Int) (vs : List Ch) (off : Bool) (T : Nat) (w1 : World) : Prop := match b with
  | true => ∃ (g cap' : Nat), StA w1 T T (ls ++ [(⟨r, c, some ⟨g, 0, none⟩, cap', vs, off, 0⟩ : Lv)])
  | false => StA w1 T T ls
theorem leftN_new (r c : Int) (A : Option Addr) (cap : Nat) (vs : List Ch) (off : Bool) : leftN ⟨r, c, A, cap, vs, off, 0⟩ = vs.length + (if off then 1 else 0) - 1 := by
  unfold leftN many
  simp
set_option maxRecDepth 100000 in
set_option maxHeartbeats 8000000 in
theorem walk {H : Type} {enc : TypeId × Value → H} {base : Nat} (W : World) (hP : Pow W) (v0 : Value) (d0 : DataW H) (p0 : List MemPlace) (o0 : Value.okWide Tryd.prog W .any base 22 v0) (r0 : DataW.Trod enc Tryd.prog W 0 (fun _ => true) true 22 v0 d0 p0) :
    Calls Tryd.prog 3 #[v0] W fun e w' => e = .returned (.bool true) ∧ Below W.heap.size W w' := by
  obtain ⟨A, n, lc, F, rfl, hn, hF⟩ := acts_of o0 r0
  clear o0 r0
  have AW := hide (awake_c W hP)
  have HF := hide hF
  clear hP hF hn
  go_enter Tryd.func3, Tryd.ntmps3
  go_wp2_with fail
  refine AW.out.mono ?_
  rintro e w1 ⟨rfl, hb1⟩
  have HF1 := hide (HF.out.below hb1)
  have GR := hide (Great_a A n lc F w1 HF1.out)
  have HB1 := hide hb1
  clear hb1
  go_wp2_with fail
  refine GR.out.mono ?_
  rintro e w2 ⟨hor, hb2⟩
  have HF2 := hide (HF1.out.below hb2)
  have HB2 := hide (HB1.out.trans (hb2.mono HB1.out.size))
  clear hb2
  rcases hor with rfl | ⟨rfl, hsm⟩
  · go_wp2_with fail
    go_ret
    exact ⟨rfl, HB2.out⟩
  have SM := hide hsm
  clear hsm
  by_cases h12 : 12 < n
  · have hI : (12 : Int) < (n : Int) := by omega
    clear h12
    go_wp2_with fail
    go_ret
    exact ⟨rfl, HB2.out⟩
  have hI : ¬ (12 : Int) < (n : Int) := by omega
  have H12 := hide (show n ≤ 12 by omega)
  have NW := hide (New_a w2)
  clear h12
  go_wp2_with fail
  refine NW.out.mono ?_
  rintro e w3 ⟨rfl, ht3, hb3⟩
  have S3 := hide (show StA w3 w2.heap.size w2.heap.size [] from ⟨by simp, ⟨_, ht3, rfl, .inl ⟨rfl, rfl⟩⟩, fun i hi => absurd hi (Nat.not_lt_zero i)⟩)
  have HB3 := hide hb3
  clear ht3 hb3
  go_wp2_with fail
  go_loopw [4, 5] (fun va vi wr => ∃ (k : Nat) (ls : List Lv), k ≤ n ∧ vi = .int .i64 k ∧ va = .int .i64 ((leftS ls : Int) + 1) ∧ Hid (ls.length ≤ k) ∧ Hid (StA wr w2.heap.size w2.heap.size ls) ∧ Hid (∀ x ∈ ls, x.fit) ∧ Hid (Below w2.heap.size w2 wr)) (fun _ vi _ => n - (intOf vi).toNat)
  case atStart => exact ⟨0, [], by omega, rfl, rfl, hide (by simp), S3, hide (fun x hx => by cases hx), HB3⟩
  case round =>
    clear S3 HB3
    obtain ⟨k, ls, hk, rfl, rfl, HLE, HS, HFT, HB⟩ := hrel
    by_cases hlt : k < n
    rotate_left
    · -- the second loop
      have hltI : ¬ (k : Int) < (n : Int) := by omega
      have LF := hide (Left_a w2.heap.size w2.heap.size ls wr HS.out HFT.out)
      have hL : leftS ls ≤ 2000 := by
        have h1 := leftS_le ls HFT.out
        have h2 := HLE.out
        have h3 := H12.out
        omega
      obtain ⟨L0, hL0⟩ : ∃ x, leftS ls = x := ⟨_, rfl⟩
      rw [hL0] at LF hL ⊢
      have HS0 := hide (And.intro HS.out HFT.out)
      have HL0 := hide hL0
      clear hL0
      go_wp2_with fail
      refine LF.out.mono ?_
      rintro e w4 ⟨rfl, hb4⟩
      have S4 := hide (HS0.out.1.below hb4)
      have HB4 := hide (HB.out.trans (hb4.mono HB.out.size))
      clear hb4
      go_wp2_with fail
      go_loopw [7, 8] (fun vl vn ws => ∃ (m : Nat) (ms : List Lv), vl = .int .i64 (leftS ms) ∧ vn = .int .i64 m ∧ Hid (StA ws w2.heap.size w2.heap.size ms) ∧ Hid (∀ x ∈ ms, x.fit) ∧ Hid (m + leftS ms = L0) ∧ Hid (m = 0 ∨ ms ≠ []) ∧ Hid (Below w2.heap.size w2 ws)) (fun vl _ _ => (intOf vl).toNat)
      case atStart => exact ⟨0, ls, by rw [HL0.out], rfl, S4, hide HFT.out, hide (by rw [HL0.out]; omega), hide (.inl rfl), HB4⟩
      case round =>
        clear S4 HB4
        obtain ⟨m, ms, rfl, rfl, HM, HMF, HML, HM0, HBM⟩ := hrel
        have DP := hide (depth_a w2.heap.size w2.heap.size ms wr HM.out)
        have hml := HML.out
        by_cases hms : ms = []
        · have hm0 : m = 0 := HM0.out.resolve_right fun h => h hms
          subst hms
          subst hm0
          have hl0 : L0 = 0 := by simpa [leftS] using hml.symm
          subst hl0
          have DP : Hid (Calls Tryd.prog 9 #[.pointer (some ⟨w2.heap.size, 0, none⟩)] wr fun e w' => e = .returned (.int .i64 0) ∧ wr = w') := DP
          clear hml
          go_wp2_with fail
          refine DP.out.mono ?_
          rintro e w5 ⟨rfl, rfl⟩
          go_wp2_with fail
          go_ret
          exact ⟨rfl, HB2.out.trans (HBM.out.mono HB2.out.size)⟩
        have hlen : 0 < ms.length := List.length_pos_iff.2 hms
        have hlenI : (0 : Int) < (ms.length : Int) := by omega
        have NL := nextL_left ms
        have NX := hide (fun (w' : World) (hs : StA w' w2.heap.size w2.heap.size ms) => Next_a w2.heap.size w2.heap.size ms w' hs (Nat.le_refl _) HMF.out)
        have hmb : m ≤ 2000 := by omega
        have hmsb : leftS ms ≤ 2000 := by omega
        by_cases hnx : nextL ms = []
        · have hz := NL.2 hnx
          have eD : decide (0 < (nextL ms).length) = false := by rw [hnx]; rfl
          rw [eD] at NX
          have hmI : (m : Int) = (L0 : Int) := by omega
          rw [hz]
          have HZ := hide (And.intro hz (And.intro hnx hmI))
          clear hz hnx eD NL hml hms hlen
          have HMI := hide hmI
          obtain rfl : m = L0 := by omega
          clear hmI
          go_wp2_with fail
          refine DP.out.mono ?_
          rintro e w5 ⟨rfl, rfl⟩
          have NX5 := hide (NX.out wr HM.out)
          go_wp2_with fail
          refine NX5.out.mono ?_
          rintro e w6 ⟨rfl, hs6, hb6, _⟩
          have HB6 := hide (HB2.out.trans ((HBM.out.trans hb6).mono HB2.out.size))
          clear hs6 hb6
          go_wp2_with fail
          go_ret
          exact ⟨rfl, HB6.out⟩
        · have hz := NL.1 hnx
          have hnl : 0 < (nextL ms).length := List.length_pos_iff.2 hnx
          have eD : decide (0 < (nextL ms).length) = true := decide_eq_true hnl
          rw [eD] at NX
          have HLF := hide (fun (w' : World) (hs : StA w' w2.heap.size w2.heap.size (nextL ms)) => Left_a w2.heap.size w2.heap.size (nextL ms) w' hs (nextL_fit HMF.out))
          have HFN := hide (nextL_fit HMF.out)
          have HNE := hide hnx
          clear hnx eD NL hml hms hlen hnl
          obtain ⟨z, hzz⟩ : ∃ x, leftS (nextL ms) = x := ⟨_, rfl⟩
          rw [hzz] at hz HLF
          rw [← hz]
          have HZ := hide hz
          have HZZ := hide hzz
          have hzb : z ≤ 2000 := by omega
          clear hz hzz hmsb
          go_wp2_with fail
          refine DP.out.mono ?_
          rintro e w5 ⟨rfl, rfl⟩
          have NX5 := hide (NX.out wr HM.out)
          go_wp2_with fail
          refine NX5.out.mono ?_
          rintro e w6 ⟨rfl, hs6, hb6, _⟩
          have LF6 := hide (HLF.out w6 hs6)
          have S6 := hide hs6
          have HB6 := hide (HBM.out.trans hb6)
          clear hs6 hb6
          go_wp2_with fail
          refine LF6.out.mono ?_
          rintro e w7 ⟨rfl, hb7⟩
          have S7 := hide (S6.out.below hb7)
          have HB7 := hide (HB6.out.trans (hb7.mono HB6.out.size))
          clear hb7
          go_wp2_with fail
          go_roundw
          case rel => exact ⟨m + 1, nextL ms, by rw [HZZ.out], by go_num, S7, HFN, hide (by have := HML.out; have := HZ.out; rw [HZZ.out]; omega), hide (.inr HNE.out), HB7⟩
          case measure => simp [intOf]
    -- the first loop's round
    have hltI : (k : Int) < (n : Int) := by omega
    obtain ⟨a, rfl, c0, c1, c2, c3, c4, hcr, k0, k1, hal⟩ := HF2.out k hlt
    have hvs := SM.out.2 k hlt
    have HCR := hide hcr
    have hfr := HFT.out
    generalize F k = x at *
    obtain ⟨kind, r, c, xA, xcap, vs, off⟩ := x
    simp only at c0 c1 c2 c3 c4 HCR hvs
    have HC := hide (And.intro c1 (And.intro c2 (And.intro c3 (And.intro c4 hal))))
    have HVS := hide hvs
    have hL : leftS ls ≤ 2000 := by
      have h1 := leftS_le ls HFT.out
      have h2 := HLE.out
      have h3 := H12.out
      omega
    obtain ⟨b, hbm⟩ : ∃ b, decide (mayV r c vs) = b := ⟨_, rfl⟩
    have PU : ∀ w1, StA w1 w2.heap.size w2.heap.size ls → Below w2.heap.size w2 w1 → Calls Tryd.prog 7 #[.pointer (some ⟨w2.heap.size, 0, none⟩), .agg #[.int .i64 r, .int .i64 c, .slice xA vs.length xcap], .bool off] w1 fun e w' => e = .returned (.int .i64 (bif b then 0 else 2)) ∧ PostE b ls r c vs off w2.heap.size w' ∧ Below w2.heap.size w1 w' := by
      intro w1 hs1 hb1
      have hls : ls.length < 2000 := by have := HLE.out; have := H12.out; omega
      by_cases hm : mayV r c vs
      · rw [decide_eq_true hm] at hbm
        subst hbm
        refine (Push_yes _ _ ls r c xA xcap vs off w1 hs1 (Nat.le_refl _) (HCR.out.below hb1) (by omega) hm hls).mono ?_
        rintro e w' ⟨rfl, ⟨g, cap', _, h⟩, hb, _⟩
        exact ⟨rfl, ⟨g, cap', h⟩, hb⟩
      · rw [decide_eq_false hm] at hbm
        subst hbm
        have hBs : w2.heap.size ≤ w1.heap.size := hb1.size
        have E : pushE r c vs = 2 := by unfold pushE; rw [if_neg hm]
        have h := Push_no _ _ ls r c xA xcap vs off w1 hs1 (HCR.out.below hb1) (by omega) (.inl hm)
        rw [E] at h
        refine h.mono ?_
        rintro e w' ⟨rfl, hb⟩
        exact ⟨rfl, hs1.below hb, hb.mono hBs⟩
    have HPU := hide PU
    have HBM := hide hbm
    clear PU c0 hcr k0 k1 hfr hvs hbm
    go_wp2_with fail
    let R : Nat → Value → World → Prop := fun sl u _ => match sl with
      | 25 => u = .pointer (some ⟨w2.heap.size, 0, none⟩)
      | 26 | 31 => u = .slice (some a) n lc
      | 27 | 32 => u = .int .i64 k
      | 28 | 33 => u = .pointer (some (a.add (k * 5)))
      | 29 => u = .pointer (some ⟨(a.add (k * 5)).block, (a.add (k * 5)).off + 1, none⟩)
      | 30 => u = .agg #[.int .i64 r, .int .i64 c, .slice xA vs.length xcap]
      | 34 => u = .pointer (some ⟨(a.add (k * 5)).block, (a.add (k * 5)).off + 4, none⟩)
      | 35 => u = .bool off
      | 36 => u = .int .i64 (bif b then 0 else 2)
      | 37 => u = .bool (!b)
      | _ => True
    let J : (Nat → Prop) → World → Prop := fun D w1 => (D 36 → PostE b ls r c vs off w2.heap.size w1) ∧ (¬ D 36 → StA w1 w2.heap.size w2.heap.size ls) ∧ Below w2.heap.size w2 w1
    have Jc : ∀ (D D' : Nat → Prop) (w1 : World), (D 36 ↔ D' 36) → J D w1 → J D' w1 := fun D D' w1 h1 ⟨j1, j2, j3⟩ => ⟨fun h => j1 (h1.2 h), fun h => j2 fun h' => h (h1.1 h'), j3⟩
    refine wp_region_relS R (fun _ _ => True) J (by kernel_rfl) (by kernel_rfl) (by kernel_rfl) (fun t v _ _ h1 _ => ?mono) ⟨fun h => h.elim, fun _ => HS.out.below (Below.refl _ _).drew, HB.out.drew⟩ ?step ?fin
    case mono => exact h1
    case fin =>
      intro ff wi hj hr
      obtain ⟨j1, _, j3⟩ := hj
      have hpost := j1 (by decide)
      have e37 : ff 37 = .bool (!b) := hr 37 (by decide)
      obtain ⟨c1, c2, c3, c4, hal⟩ := HC.out
      have d3 : wi.cell? ⟨(a.add (k * 5)).block, (a.add (k * 5)).off + 3, none⟩ = some (.slice xA vs.length xcap) := (j3.cell (p := ⟨_, _, none⟩) hal).trans c3
      have d3' : wi.cell? ⟨(a.add (k * 5)).block, (a.add (k * 5)).off + 1 + 2, none⟩ = some (.slice xA vs.length xcap) := d3
      have d4 : wi.cell? ⟨(a.add (k * 5)).block, (a.add (k * 5)).off + 4, none⟩ = some (.bool off) := (j3.cell (p := ⟨_, _, none⟩) hal).trans c4
      have HPOST := hide hpost
      have HBI := hide j3
      have h12 := H12.out
      have hvs := HVS.out
      clear hr j1 j3 Jc hpost c1 c2 c3 c4 hal
      simp only [putAll, slotsOf, List.filterMap_cons, List.filterMap_nil, List.foldl_cons, List.foldl_nil, Act.put, e37]
      simp only [List.setIfInBounds_toArray, List.set_cons_succ, List.set_cons_zero]
      cases b with
      | false =>
        have S5 : Hid (StA wi w2.heap.size w2.heap.size ls) := hide HPOST.out
        clear d3 d3' d4
        go_wp2_with fail
        go_roundw
        case rel => exact ⟨k + 1, ls, by omega, by go_num, rfl, hide (by have := HLE.out; omega), S5, HFT, HBI⟩
        case measure => simp [intOf]; omega
      | true =>
        obtain ⟨g, cap', hst⟩ : ∃ (g cap' : Nat), StA wi w2.heap.size w2.heap.size (ls ++ [(⟨r, c, some ⟨g, 0, none⟩, cap', vs, off, 0⟩ : Lv)]) := HPOST.out
        have hm : mayV r c vs := of_decide_eq_true HBM.out
        have hv0 : 0 < vs.length := hm.1
        have S5 := hide hst
        have FT5 : Hid (∀ x ∈ ls ++ [(⟨r, c, some ⟨g, 0, none⟩, cap', vs, off, 0⟩ : Lv)], x.fit) := hide fun x hx => by
          rcases List.mem_append.1 hx with hx | hx
          · exact HFT.out x hx
          · rw [List.mem_singleton.1 hx]
            exact ⟨hv0, hvs, by show 0 + 1 ≤ vs.length + _; omega⟩
        have LN : Hid (leftS (ls ++ [(⟨r, c, some ⟨g, 0, none⟩, cap', vs, off, 0⟩ : Lv)]) = leftS ls + (vs.length + (if off then 1 else 0) - 1)) := hide (by rw [leftS_app, leftS, leftN_new]; simp [leftS])
        have HLE5 : Hid ((ls ++ [(⟨r, c, some ⟨g, 0, none⟩, cap', vs, off, 0⟩ : Lv)]).length ≤ k + 1) := hide (by have := HLE.out; simp; omega)
        clear hst hm
        cases off with
        | false =>
          go_wp2_with fail
          go_roundw
          case rel => exact ⟨k + 1, _, by omega, by go_num, by rw [LN.out]; simp; omega, HLE5, S5, FT5, HBI⟩
          case measure => simp [intOf]; omega
        | true =>
          go_wp2_with fail
          go_roundw
          case rel => exact ⟨k + 1, _, by omega, by go_num, by rw [LN.out]; simp; omega, HLE5, S5, FT5, HBI⟩
          case measure => simp [intOf]; omega
    case step =>
      intro o ho
      simp only [List.mem_cons, List.not_mem_nil, or_false] at ho
      rcases ho with rfl | rfl | rfl | rfl | rfl | rfl | rfl | rfl | rfl | rfl | rfl | rfl | rfl
      · intro D aa w1 hD hj hsm hr
        have e3 : aa.tmps.getD 3 undef = .pointer (some ⟨w2.heap.size, 0, none⟩) := hsm 3 (by decide)
        rw [Array.getD_eq_getD_getElem?] at e3
        unfold Oper.wp
        simp only [execOp, Act.eval, Array.getD_eq_getD_getElem?, e3]
        go_simp
        exact ⟨_, rfl, rfl, Jc D (fun t => D t ∨ 25 = t) w1 (by simp) hj⟩
      · intro D aa w1 hD hj hsm hr
        have e0 : aa.tmps.getD 0 undef = .slice (some a) n lc := hsm 0 (by decide)
        rw [Array.getD_eq_getD_getElem?] at e0
        unfold Oper.wp
        simp only [execOp, Act.eval, Array.getD_eq_getD_getElem?, e0]
        go_simp
        exact ⟨_, rfl, rfl, Jc D (fun t => D t ∨ 26 = t) w1 (by simp) hj⟩
      · intro D aa w1 hD hj hsm hr
        have e5 : aa.tmps.getD 5 undef = .int .i64 k := hsm 5 (by decide)
        rw [Array.getD_eq_getD_getElem?] at e5
        unfold Oper.wp
        simp only [execOp, Act.eval, Array.getD_eq_getD_getElem?, e5]
        go_simp
        exact ⟨_, rfl, rfl, Jc D (fun t => D t ∨ 27 = t) w1 (by simp) hj⟩
      · intro D aa w1 hD hj hsm hr
        have e26 : aa.tmps.getD 26 undef = .slice (some a) n lc := hr 26 (by decide) (by apply Array.mem_toList_iff.1; repeat (first | exact List.Mem.head _ | apply List.Mem.tail))
        have e27 : aa.tmps.getD 27 undef = .int .i64 k := hr 27 (by decide) (by apply Array.mem_toList_iff.1; repeat (first | exact List.Mem.head _ | apply List.Mem.tail))
        rw [Array.getD_eq_getD_getElem?] at e26
        rw [Array.getD_eq_getD_getElem?] at e27
        unfold Oper.wp
        simp only [execOp, Act.eval, Array.getD_eq_getD_getElem?, e26, e27]
        go_simp
        exact ⟨_, rfl, rfl, Jc D (fun t => D t ∨ 28 = t) w1 (by simp) hj⟩
      · intro D aa w1 hD hj hsm hr
        have e28 : aa.tmps.getD 28 undef = .pointer (some (a.add (k * 5))) := hr 28 (by decide) (by apply Array.mem_toList_iff.1; repeat (first | exact List.Mem.head _ | apply List.Mem.tail))
        rw [Array.getD_eq_getD_getElem?] at e28
        unfold Oper.wp
        simp only [execOp, Act.eval, Array.getD_eq_getD_getElem?, e28]
        go_simp
        exact ⟨_, rfl, rfl, Jc D (fun t => D t ∨ 29 = t) w1 (by simp) hj⟩
      · intro D aa w1 hD hj hsm hr
        have e29 : aa.tmps.getD 29 undef = .pointer (some ⟨(a.add (k * 5)).block, (a.add (k * 5)).off + 1, none⟩) := hr 29 (by decide) (by apply Array.mem_toList_iff.1; repeat (first | exact List.Mem.head _ | apply List.Mem.tail))
        obtain ⟨c1, c2, c3, c4, hal⟩ := HC.out
        have d1 := (hj.2.2.cell (p := ⟨_, _, none⟩) hal).trans c1
        have d2 := (hj.2.2.cell (p := ⟨_, _, none⟩) hal).trans c2
        have d3 := (hj.2.2.cell (p := ⟨_, _, none⟩) hal).trans c3
        have d2' : w1.cell? ⟨(a.add (k * 5)).block, (a.add (k * 5)).off + 1 + 1, none⟩ = some (.int .i64 c) := d2
        have d3' : w1.cell? ⟨(a.add (k * 5)).block, (a.add (k * 5)).off + 1 + 2, none⟩ = some (.slice xA vs.length xcap) := d3
        rw [Array.getD_eq_getD_getElem?] at e29
        unfold Oper.wp
        simp only [execOp, Act.eval, Array.getD_eq_getD_getElem?, e29]
        go_simp
        exact ⟨_, rfl, rfl, Jc D (fun t => D t ∨ 30 = t) w1 (by simp) hj⟩
      · intro D aa w1 hD hj hsm hr
        have e0 : aa.tmps.getD 0 undef = .slice (some a) n lc := hsm 0 (by decide)
        rw [Array.getD_eq_getD_getElem?] at e0
        unfold Oper.wp
        simp only [execOp, Act.eval, Array.getD_eq_getD_getElem?, e0]
        go_simp
        exact ⟨_, rfl, rfl, Jc D (fun t => D t ∨ 31 = t) w1 (by simp) hj⟩
      · intro D aa w1 hD hj hsm hr
        have e5 : aa.tmps.getD 5 undef = .int .i64 k := hsm 5 (by decide)
        rw [Array.getD_eq_getD_getElem?] at e5
        unfold Oper.wp
        simp only [execOp, Act.eval, Array.getD_eq_getD_getElem?, e5]
        go_simp
        exact ⟨_, rfl, rfl, Jc D (fun t => D t ∨ 32 = t) w1 (by simp) hj⟩
      · intro D aa w1 hD hj hsm hr
        have e31 : aa.tmps.getD 31 undef = .slice (some a) n lc := hr 31 (by decide) (by apply Array.mem_toList_iff.1; repeat (first | exact List.Mem.head _ | apply List.Mem.tail))
        have e32 : aa.tmps.getD 32 undef = .int .i64 k := hr 32 (by decide) (by apply Array.mem_toList_iff.1; repeat (first | exact List.Mem.head _ | apply List.Mem.tail))
        rw [Array.getD_eq_getD_getElem?] at e31
        rw [Array.getD_eq_getD_getElem?] at e32
        unfold Oper.wp
        simp only [execOp, Act.eval, Array.getD_eq_getD_getElem?, e31, e32]
        go_simp
        exact ⟨_, rfl, rfl, Jc D (fun t => D t ∨ 33 = t) w1 (by simp) hj⟩
      · intro D aa w1 hD hj hsm hr
        have e33 : aa.tmps.getD 33 undef = .pointer (some (a.add (k * 5))) := hr 33 (by decide) (by apply Array.mem_toList_iff.1; repeat (first | exact List.Mem.head _ | apply List.Mem.tail))
        rw [Array.getD_eq_getD_getElem?] at e33
        unfold Oper.wp
        simp only [execOp, Act.eval, Array.getD_eq_getD_getElem?, e33]
        go_simp
        exact ⟨_, rfl, rfl, Jc D (fun t => D t ∨ 34 = t) w1 (by simp) hj⟩
      · intro D aa w1 hD hj hsm hr
        have e34 : aa.tmps.getD 34 undef = .pointer (some ⟨(a.add (k * 5)).block, (a.add (k * 5)).off + 4, none⟩) := hr 34 (by decide) (by apply Array.mem_toList_iff.1; repeat (first | exact List.Mem.head _ | apply List.Mem.tail))
        obtain ⟨c1, c2, c3, c4, hal⟩ := HC.out
        have d4 := (hj.2.2.cell (p := ⟨_, _, none⟩) hal).trans c4
        rw [Array.getD_eq_getD_getElem?] at e34
        unfold Oper.wp
        simp only [execOp, Act.eval, Array.getD_eq_getD_getElem?, e34]
        go_simp
        exact ⟨_, rfl, rfl, Jc D (fun t => D t ∨ 35 = t) w1 (by simp) hj⟩
      · intro D aa w1 hD hj hsm hr
        have e25 : aa.tmps.getD 25 undef = .pointer (some ⟨w2.heap.size, 0, none⟩) := hr 25 (by decide) (by apply Array.mem_toList_iff.1; repeat (first | exact List.Mem.head _ | apply List.Mem.tail))
        have e30 : aa.tmps.getD 30 undef = .agg #[.int .i64 r, .int .i64 c, .slice xA vs.length xcap] := hr 30 (by decide) (by apply Array.mem_toList_iff.1; repeat (first | exact List.Mem.head _ | apply List.Mem.tail))
        have e35 : aa.tmps.getD 35 undef = .bool off := hr 35 (by decide) (by apply Array.mem_toList_iff.1; repeat (first | exact List.Mem.head _ | apply List.Mem.tail))
        rw [Array.getD_eq_getD_getElem?] at e25
        rw [Array.getD_eq_getD_getElem?] at e30
        rw [Array.getD_eq_getD_getElem?] at e35
        unfold Oper.wp
        simp only [execOp, Act.eval, Array.getD_eq_getD_getElem?, e25, e30, e35]
        go_simp
        refine (HPU.out w1 (hj.2.1 (hD 36 rfl)) hj.2.2).mono ?_
        rintro e w' ⟨rfl, hp, hb⟩
        exact ⟨_, rfl, rfl, fun _ => hp, fun hn => absurd (.inr rfl) hn, hj.2.2.trans hb⟩
      · intro D aa w1 hD hj hsm hr
        have e36 : aa.tmps.getD 36 undef = .int .i64 (bif b then 0 else 2) := hr 36 (by decide) (by apply Array.mem_toList_iff.1; repeat (first | exact List.Mem.head _ | apply List.Mem.tail))
        rw [Array.getD_eq_getD_getElem?] at e36
        unfold Oper.wp
        simp only [execOp, Act.eval, Array.getD_eq_getD_getElem?, e36]
        go_simp
        cases b <;> exact ⟨_, rfl, rfl, Jc D (fun t => D t ∨ 37 = t) w1 (by simp) hj⟩
end Go.Proofs.YtjobhgphmlgcmaaDoor.PathEndsW
