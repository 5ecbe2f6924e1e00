/- The walk of the statement VerdictKinds: of any two verdicts; without conditions. -/
import Derived.Test.YtnmddeplchideaaRows
import Derived.Test.YtnmddeplchideaaTreeWords
import Derived.Test.YtnmddeplchideaaQuietBelow
import Derived.Test.YtnmddeplchideaaVerdictD
namespace Go.Proofs.Ytnmddeplchideaa.VerdictKindsW
open Go.Joins Go.ChangeShapes Go.WideShapes Go.RowKit Go.Deep Go.Proofs.Ytnmddeplchideaa
set_option linter.unusedVariables false
set_option linter.unusedSimpArgs false
theorem eqRows_of' {E : Type} [DecidableEq E] {n m : Nat} {X Y : Nat → E} (h : n = m) (he : eqTo X Y n = true) : eqRows n m X Y = true := by subst h; exact eqRows_of he
theorem same0 {v o : Vd} (h : eqRows v.n0 o.n0 v.F0 o.F0 = false) : sameV v o = false := by simp [sameV, h]
theorem same1 {v o : Vd} (h : eqRows v.n1 o.n1 v.F1 o.F1 = false) : sameV v o = false := by simp [sameV, h]
theorem same2 {v o : Vd} (h : eqRows v.n2 o.n2 v.F2 o.F2 = false) : sameV v o = false := by simp [sameV, h]
theorem same3 {v o : Vd} (h : eqRows v.n3 o.n3 v.F3 o.F3 = false) : sameV v o = false := by simp [sameV, h]
theorem same4 {v o : Vd} (h : eqRows v.n4 o.n4 v.F4 o.F4 = false) : sameV v o = false := by simp [sameV, h]
theorem same5 {v o : Vd} (h : eqRows v.n5 o.n5 v.F5 o.F5 = false) : sameV v o = false := by simp [sameV, h]
theorem eqRows_ne {E : Type} [DecidableEq E] {n m : Nat} {X Y : Nat → E} (h : n ≠ m) : eqRows n m X Y = false := by simp [eqRows, h]
theorem neI {a b : Nat} (h : a ≠ b) : ((a : Int) != (b : Int)) = true := by
  have h0 : ¬ (a : Int) = (b : Int) := by omega
  simpa using h0
theorem eqI {a b : Nat} (h : a = b) : ((a : Int) != (b : Int)) = false := by subst h; simp
set_option maxRecDepth 100000 in
set_option maxHeartbeats 8000000 in
theorem same_b (v o : Vd) (w : World) (hv : VdOk w v) (ho : VdOk w o) : Calls Try.prog 20 #[.agg #[.slice v.A0 v.n0 v.c0, .slice v.A1 v.n1 v.c1, .slice v.A2 v.n2 v.c2, .slice v.A3 v.n3 v.c3, .slice v.A4 v.n4 v.c4, .slice v.A5 v.n5 v.c5], .agg #[.slice o.A0 o.n0 o.c0, .slice o.A1 o.n1 o.c1, .slice o.A2 o.n2 o.c2, .slice o.A3 o.n3 o.c3, .slice o.A4 o.n4 o.c4, .slice o.A5 o.n5 o.c5]] w fun e w' => e = .returned (.bool (sameV v o)) ∧ Below w.heap.size w w' := by
  have hm0 := hv.r0.1
  have hm1 := hv.r1.1
  have hm2 := hv.r2.1
  unfold maxLen at hm0 hm1 hm2
  have HV := hide hv
  have HO := hide ho
  have HT := hide (Two.start w v o)
  have q0 := HT.out.q.q0
  have q1 := HT.out.q.q1
  have q2 := HT.out.q.q2
  have p0 := HT.out.p.q0
  have p1 := HT.out.p.q1
  have p2 := HT.out.p.q2
  clear hv ho
  by_cases hn0 : v.n0 = o.n0
  rotate_left
  · have d0 := neI hn0
    have S := hide (same0 (eqRows_ne (X := v.F0) (Y := o.F0) hn0))
    clear hn0
    go_enter Try.func20, Try.ntmps20
    go_wp2_with fail
    go_ret
    exact ⟨by rw [S.out]; rfl, HT.out.b⟩
  have d0 := eqI hn0
  have N0 := hide hn0
  clear hn0
  by_cases hn1 : v.n1 = o.n1
  rotate_left
  · have d1 := neI hn1
    have S := hide (same1 (eqRows_ne (X := v.F1) (Y := o.F1) hn1))
    clear hn1
    go_enter Try.func20, Try.ntmps20
    go_wp2_with fail
    go_ret
    exact ⟨by rw [S.out]; rfl, HT.out.b⟩
  have d1 := eqI hn1
  have N1 := hide hn1
  clear hn1
  by_cases hn2 : v.n2 = o.n2
  rotate_left
  · have d2 := neI hn2
    have S := hide (same2 (eqRows_ne (X := v.F2) (Y := o.F2) hn2))
    clear hn2
    go_enter Try.func20, Try.ntmps20
    go_wp2_with fail
    go_ret
    exact ⟨by rw [S.out]; rfl, HT.out.b⟩
  have d2 := eqI hn2
  have N2 := hide hn2
  clear hn2
  go_enter Try.func20, Try.ntmps20
  go_wp2_with fail
  clear q0 q1 q2 p0 p1 p2 d0 d1 d2
  obtain ⟨W0, hW0⟩ : ∃ W0, W0 = ((w.alloc (.cells #[.slice v.A0 v.n0 v.c0, .slice v.A1 v.n1 v.c1, .slice v.A2 v.n2 v.c2, .slice v.A3 v.n3 v.c3, .slice v.A4 v.n4 v.c4, .slice v.A5 v.n5 v.c5] 39)).alloc (.cells #[.slice o.A0 o.n0 o.c0, .slice o.A1 o.n1 o.c1, .slice o.A2 o.n2 o.c2, .slice o.A3 o.n3 o.c3, .slice o.A4 o.n4 o.c4, .slice o.A5 o.n5 o.c5] 39)) := ⟨_, rfl⟩
  rw [← hW0] at HT ⊢
  clear hW0
  go_wp2_with fail
  go_loopw [5] (fun i wr => ∃ k : Nat, k ≤ v.n0 ∧ i = .int .i64 k ∧ Hid (eqTo v.F0 o.F0 k = true) ∧ Hid (Two w wr v o)) (fun i _ => v.n0 - (intOf i).toNat)
  case atStart => exact ⟨0, by omega, rfl, hide rfl, HT⟩
  case round =>
    obtain ⟨k, hk, rfl, he, HT'⟩ := hrel
    clear HT
    have HT := hide HT'.out
    clear HT'
    have q := HT.out.q.q0
    by_cases hlt : k < v.n0
    · have p := HT.out.p.q0
      have N := hide N0.out
      obtain ⟨a, ea, ha, x0, x1⟩ := (HV.out.below HT.out.b).r0.at_ hlt
      obtain ⟨b, eb, hb, y0, y1⟩ := (HO.out.below HT.out.b).r0.at_ (show k < o.n0 by have := N.out; omega)
      have hlt2 : k < o.n0 := by have := N.out; omega
      rw [ea] at q
      rw [eb] at p
      have EA := hide (And.intro ea eb)
      clear ea eb
      have hg : Try.prog.eqGuardType Try.prog.depth 76 = false := by kernel_rfl
      by_cases hxy : v.F0 k = o.F0 k
      · have hd : decide (v.F0 k = o.F0 k) = true := by simpa using hxy
        have hcmp := neqEnd (v.F0 k) (o.F0 k)
        rw [hd] at hcmp
        have Hxy := hide hxy
        clear hd hxy
        go_wp2_with fail
        go_quiet (fail)
        go_wp2_with fail
        go_roundw
        case rel => exact ⟨k + 1, by omega, by go_num, hide (by rw [eqTo_snoc, he.out]; simpa using Hxy.out), hide (HT.out.drewN _)⟩
        case measure => simp [intOf]; omega
      · have hd : decide (v.F0 k = o.F0 k) = false := by simpa using hxy
        have hcmp := neqEnd (v.F0 k) (o.F0 k)
        rw [hd] at hcmp
        have Hxy := hide hxy
        clear hd hxy
        go_wp2_with fail
        go_quiet (fail)
        go_wp2_with fail
        go_ret
        exact ⟨by rw [same0 (eqRows_false hlt Hxy.out)]; rfl, below_drewN HT.out.b _⟩
    · have hke : k = v.n0 := by omega
      have E0 : Hid (eqRows v.n0 o.n0 v.F0 o.F0 = true) := hide (eqRows_of' N0.out (hke ▸ he.out))
      have hle : ¬ k < v.n0 := hlt
      clear hke
      go_wp2_with fail
      go_loopw [6] (fun i wr => ∃ k : Nat, k ≤ v.n1 ∧ i = .int .i64 k ∧ Hid (eqTo v.F1 o.F1 k = true) ∧ Hid (Two w wr v o)) (fun i _ => v.n1 - (intOf i).toNat)
      case atStart => exact ⟨0, by omega, rfl, hide rfl, HT⟩
      case round =>
        obtain ⟨k, hk, rfl, he, HT'⟩ := hrel
        clear HT
        have HT := hide HT'.out
        clear HT'
        have q := HT.out.q.q1
        by_cases hlt : k < v.n1
        · have p := HT.out.p.q1
          have N := hide N1.out
          obtain ⟨a, ea, ha, x0, x1, x2, x3⟩ := (HV.out.below HT.out.b).r1.at_ hlt
          obtain ⟨b, eb, hb, y0, y1, y2, y3⟩ := (HO.out.below HT.out.b).r1.at_ (show k < o.n1 by have := N.out; omega)
          have hlt2 : k < o.n1 := by have := N.out; omega
          rw [ea] at q
          rw [eb] at p
          have EA := hide (And.intro ea eb)
          clear ea eb
          have hg : Try.prog.eqGuardType Try.prog.depth 72 = false := by kernel_rfl
          by_cases hxy : v.F1 k = o.F1 k
          · have hd : decide (v.F1 k = o.F1 k) = true := by simpa using hxy
            have hcmp := neqStuck (v.F1 k) (o.F1 k)
            rw [hd] at hcmp
            have Hxy := hide hxy
            clear hd hxy
            go_wp2_with fail
            go_quiet (fail)
            go_wp2_with fail
            go_roundw
            case rel => exact ⟨k + 1, by omega, by go_num, hide (by rw [eqTo_snoc, he.out]; simpa using Hxy.out), hide (HT.out.drewN _)⟩
            case measure => simp [intOf]; omega
          · have hd : decide (v.F1 k = o.F1 k) = false := by simpa using hxy
            have hcmp := neqStuck (v.F1 k) (o.F1 k)
            rw [hd] at hcmp
            have Hxy := hide hxy
            clear hd hxy
            go_wp2_with fail
            go_quiet (fail)
            go_wp2_with fail
            go_ret
            exact ⟨by rw [same1 (eqRows_false hlt Hxy.out)]; rfl, below_drewN HT.out.b _⟩
        · have hke : k = v.n1 := by omega
          have E1 : Hid (eqRows v.n1 o.n1 v.F1 o.F1 = true) := hide (eqRows_of' N1.out (hke ▸ he.out))
          have hle : ¬ k < v.n1 := hlt
          clear hke
          go_wp2_with fail
          go_loopw [7] (fun i wr => ∃ k : Nat, k ≤ v.n2 ∧ i = .int .i64 k ∧ Hid (eqTo v.F2 o.F2 k = true) ∧ Hid (Two w wr v o)) (fun i _ => v.n2 - (intOf i).toNat)
          case atStart => exact ⟨0, by omega, rfl, hide rfl, HT⟩
          case round =>
            obtain ⟨k, hk, rfl, he, HT'⟩ := hrel
            clear HT
            have HT := hide HT'.out
            clear HT'
            have q := HT.out.q.q2
            by_cases hlt : k < v.n2
            · have p := HT.out.p.q2
              have N := hide N2.out
              obtain ⟨a, ea, ha, x0, x1⟩ := (HV.out.below HT.out.b).r2.at_ hlt
              obtain ⟨b, eb, hb, y0, y1⟩ := (HO.out.below HT.out.b).r2.at_ (show k < o.n2 by have := N.out; omega)
              have hlt2 : k < o.n2 := by have := N.out; omega
              rw [ea] at q
              rw [eb] at p
              have EA := hide (And.intro ea eb)
              clear ea eb
              have hg : Try.prog.eqGuardType Try.prog.depth 82 = false := by kernel_rfl
              by_cases hxy : v.F2 k = o.F2 k
              · have hd : decide (v.F2 k = o.F2 k) = true := by simpa using hxy
                have hcmp := neqLeak (v.F2 k) (o.F2 k)
                rw [hd] at hcmp
                have Hxy := hide hxy
                clear hd hxy
                go_wp2_with fail
                go_quiet (fail)
                go_wp2_with fail
                go_roundw
                case rel => exact ⟨k + 1, by omega, by go_num, hide (by rw [eqTo_snoc, he.out]; simpa using Hxy.out), hide (HT.out.drewN _)⟩
                case measure => simp [intOf]; omega
              · have hd : decide (v.F2 k = o.F2 k) = false := by simpa using hxy
                have hcmp := neqLeak (v.F2 k) (o.F2 k)
                rw [hd] at hcmp
                have Hxy := hide hxy
                clear hd hxy
                go_wp2_with fail
                go_quiet (fail)
                go_wp2_with fail
                go_ret
                exact ⟨by rw [same2 (eqRows_false hlt Hxy.out)]; rfl, below_drewN HT.out.b _⟩
            · have hke : k = v.n2 := by omega
              have E2 : Hid (eqRows v.n2 o.n2 v.F2 o.F2 = true) := hide (eqRows_of' N2.out (hke ▸ he.out))
              have hle : ¬ k < v.n2 := hlt
              clear hke
              by_cases e3 : eqRows v.n3 o.n3 v.F3 o.F3 = true
              rotate_left
              · have e3 : eqRows v.n3 o.n3 v.F3 o.F3 = false := by simpa using e3
                have S := hide (same3 e3)
                have q := HT.out.q.q3
                have p := HT.out.p.q3
                go_wp2_with fail
                clear q p
                refine (eqReceive2 _ _ _ _ _ _ v.F3 o.F3 _ (HV.out.below HT.out.b).r3 (HO.out.below HT.out.b).r3).mono ?_
                rintro e W1 ⟨rfl, hb⟩
                have HT1 := hide (HT.out.below hb)
                clear HT hb
                have HT := hide HT1.out
                clear HT1
                go_wp2_with fail
                go_ret
                exact ⟨by rw [S.out]; rfl, HT.out.b⟩
              by_cases e4 : eqRows v.n4 o.n4 v.F4 o.F4 = true
              rotate_left
              · have e4 : eqRows v.n4 o.n4 v.F4 o.F4 = false := by simpa using e4
                have S := hide (same4 e4)
                have q := HT.out.q.q3
                have p := HT.out.p.q3
                go_wp2_with fail
                clear q p
                refine (eqReceive2 _ _ _ _ _ _ v.F3 o.F3 _ (HV.out.below HT.out.b).r3 (HO.out.below HT.out.b).r3).mono ?_
                rintro e W1 ⟨rfl, hb⟩
                have HT1 := hide (HT.out.below hb)
                clear HT hb
                have HT := hide HT1.out
                clear HT1
                have q := HT.out.q.q4
                have p := HT.out.p.q4
                go_wp2_with fail
                clear q p
                refine (eqMessage2 _ _ _ _ _ _ v.F4 o.F4 _ (HV.out.below HT.out.b).r4 (HO.out.below HT.out.b).r4).mono ?_
                rintro e W1 ⟨rfl, hb⟩
                have HT1 := hide (HT.out.below hb)
                clear HT hb
                have HT := hide HT1.out
                clear HT1
                go_wp2_with fail
                go_ret
                exact ⟨by rw [S.out]; rfl, HT.out.b⟩
              by_cases e5 : eqRows v.n5 o.n5 v.F5 o.F5 = true
              rotate_left
              · have e5 : eqRows v.n5 o.n5 v.F5 o.F5 = false := by simpa using e5
                have S := hide (same5 e5)
                have q := HT.out.q.q3
                have p := HT.out.p.q3
                go_wp2_with fail
                clear q p
                refine (eqReceive2 _ _ _ _ _ _ v.F3 o.F3 _ (HV.out.below HT.out.b).r3 (HO.out.below HT.out.b).r3).mono ?_
                rintro e W1 ⟨rfl, hb⟩
                have HT1 := hide (HT.out.below hb)
                clear HT hb
                have HT := hide HT1.out
                clear HT1
                have q := HT.out.q.q4
                have p := HT.out.p.q4
                go_wp2_with fail
                clear q p
                refine (eqMessage2 _ _ _ _ _ _ v.F4 o.F4 _ (HV.out.below HT.out.b).r4 (HO.out.below HT.out.b).r4).mono ?_
                rintro e W1 ⟨rfl, hb⟩
                have HT1 := hide (HT.out.below hb)
                clear HT hb
                have HT := hide HT1.out
                clear HT1
                have q := HT.out.q.q5
                have p := HT.out.p.q5
                go_wp2_with fail
                clear q p
                refine (eqStr2 _ _ _ _ _ _ v.F5 o.F5 _ (HV.out.below HT.out.b).r5 (HO.out.below HT.out.b).r5).mono ?_
                rintro e W1 ⟨rfl, hb⟩
                have HT1 := hide (HT.out.below hb)
                clear HT hb
                have HT := hide HT1.out
                clear HT1
                go_wp2_with fail
                go_ret
                exact ⟨by rw [S.out]; rfl, HT.out.b⟩
              have S := hide (show sameV v o = true by simp [sameV, E0.out, E1.out, E2.out, e3, e4, e5])
              have q := HT.out.q.q3
              have p := HT.out.p.q3
              go_wp2_with fail
              clear q p
              refine (eqReceive2 _ _ _ _ _ _ v.F3 o.F3 _ (HV.out.below HT.out.b).r3 (HO.out.below HT.out.b).r3).mono ?_
              rintro e W1 ⟨rfl, hb⟩
              have HT1 := hide (HT.out.below hb)
              clear HT hb
              have HT := hide HT1.out
              clear HT1
              have q := HT.out.q.q4
              have p := HT.out.p.q4
              go_wp2_with fail
              clear q p
              refine (eqMessage2 _ _ _ _ _ _ v.F4 o.F4 _ (HV.out.below HT.out.b).r4 (HO.out.below HT.out.b).r4).mono ?_
              rintro e W1 ⟨rfl, hb⟩
              have HT1 := hide (HT.out.below hb)
              clear HT hb
              have HT := hide HT1.out
              clear HT1
              have q := HT.out.q.q5
              have p := HT.out.p.q5
              go_wp2_with fail
              clear q p
              refine (eqStr2 _ _ _ _ _ _ v.F5 o.F5 _ (HV.out.below HT.out.b).r5 (HO.out.below HT.out.b).r5).mono ?_
              rintro e W1 ⟨rfl, hb⟩
              have HT1 := hide (HT.out.below hb)
              clear HT hb
              have HT := hide HT1.out
              clear HT1
              go_wp2_with fail
              go_ret
              exact ⟨by rw [S.out]; rfl, HT.out.b⟩
end Go.Proofs.Ytnmddeplchideaa.VerdictKindsW
