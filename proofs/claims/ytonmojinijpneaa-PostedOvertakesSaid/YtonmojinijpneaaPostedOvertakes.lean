/- The walk of the statement PostedOvertakes: of any row of bytes; without conditions. -/
import Derived.Test.YtonmojinijpneaaRows
import Derived.Test.YtonmojinijpneaaPoAd
namespace Go.Proofs.Ytonmojinijpneaa.PostedOvertakesW
open Go Go.Joins Go.ChangeShapes Go.WideShapes Go.RowKit Go.Deep Go.Lib Go.Proofs.Ytonmojinijpneaa Go.Proofs.Ytonmojinijpneaa.Po Go.Proofs.Ytonmojinijpneaa.Qu
set_option linter.unusedVariables false
set_option linter.unusedSimpArgs false
set_option maxRecDepth 100000 in
set_option maxHeartbeats 16000000 in
theorem walk (W : World) (a0 : Option Addr) (len0 cap0 : Nat) (z0 : List Int) (w0 : IsRow .u8 W a0 len0 cap0 z0) :
    Calls Try.prog 9 #[.slice a0 len0 cap0] W fun e w' => e = .returned (.bool true) ∧ Below W.heap.size W w' := by
  have HZ : Hid (∀ i, i < len0 → ∃ x a, a0 = some a ∧ a.block < W.heap.size ∧ W.cell? (a.add i) = some (.int .u8 x) ∧ 0 ≤ x) := hide (fun i hi => by
    rcases w0 with ⟨rfl, rfl, _, _⟩ | ⟨a, rfl, hl, hm, hz, hc, hwz⟩
    · exact absurd hi (Nat.not_lt_zero i)
    · have h1 := hc i (by omega)
      refine ⟨_, a, rfl, ?_, h1, ?_⟩
      · have := block_lt_of_cell h1
        rwa [Po.block_add] at this
      · have h2 := hwz _ (List.getElem_mem (show i < z0.length by omega))
        simp [Lit.wf] at h2
        have h3 : IntKind.u8.min = 0 := rfl
        rw [List.getD_eq_getElem?_getD, List.getElem?_eq_getElem (show i < z0.length by omega)]
        simp only [Option.getD_some]
        omega)
  clear w0
  have AW := hide (awake_c W)
  have NC := hide (fun w' => Qu.New_c w')
  have NP := hide (fun w' => Po.New_c w')
  go_enter Try.func9, Try.ntmps9
  go_wp2_with fail
  refine AW.out.mono ?_
  rintro e wA ⟨rfl, hbA⟩
  have BA := hide hbA
  clear hbA AW
  by_cases hlen : 60 < len0
  · have hlI : (60 : Int) < (len0 : Int) := by omega
    go_wp2_with fail
    go_ret
    exact ⟨rfl, BA.out⟩
  have hlI : ¬ (60 : Int) < (len0 : Int) := by omega
  have HLEN := hide (show len0 ≤ 60 by omega)
  clear hlen
  go_wp2_with fail
  refine (NC.out _).mono ?_
  rintro e wB ⟨q, K0, rfl, hq, hqf, hb1⟩
  have HQ := hide (And.intro hq (And.intro hqf hb1))
  clear hq hqf hb1 NC
  go_wp2_with fail
  refine (NP.out _).mono ?_
  rintro e wC ⟨p, L0, rfl, hp, hpf, hb2⟩
  have H0 := hide (P1.new HQ.out.1 HQ.out.2.1 HQ.out.2.2 hp hpf hb2)
  have HP0 := hide (show P1 wC W.heap.size p q L0 K0 ls0 [] from ⟨H0.out.pq, fun b hb => Nat.le_trans BA.out.size (H0.out.fb b hb)⟩)
  have B0 := hide (BA.out.trans ((HQ.out.2.2.trans (hb2.mono HQ.out.2.2.size)).mono BA.out.size))
  clear hp hpf hb2 NP HQ H0
  go_wp2_with fail
  go_loopw [5, 6, 7, 8, 9, 10, 11, 12, 13] (fun v5 v6 v7 _ _ _ _ _ _ wr => ∃ (i s g d : Nat) (L : Nat → Option Addr × Nat) (K : QL) (ls : Nat → List Rc) (pe : Nat → Int), i ≤ len0 ∧ v7 = .int .i64 i ∧ v5 = .int .i64 s ∧ v6 = .int .i64 g ∧ s ≤ i ∧ g ≤ i ∧ Hid (d ≤ s ∧ d ≤ g) ∧ Hid (∀ j, pe j = 1 ∨ pe j = -1) ∧ Hid (ls 0 = RO g d pe) ∧ Hid (∀ j, j ≠ 0 → ls j = []) ∧ Hid (P1 wr W.heap.size p q L K ls (MO s d)) ∧ Hid (Below W.heap.size W wr)) (fun _ _ v7 _ _ _ _ _ _ _ => len0 - (RowKit.intOf v7).toNat)
  case atStart => exact ⟨0, 0, 0, 0, L0, K0, ls0, fun _ => 1, Nat.zero_le _, rfl, rfl, rfl, Nat.le_refl _, Nat.le_refl _, hide ⟨Nat.le_refl _, Nat.le_refl _⟩, hide (fun _ => .inl rfl), hide rfl, hide (fun _ _ => rfl), HP0, B0⟩
  case round =>
    obtain ⟨i, s, g, d, L, K, ls, pe, hi, rfl, rfl, rfl, hsi, hgi, HD, HPE, H0, HO, HP, HB⟩ := hrel
    rename World => wr
    have hl60 := HLEN.out
    have hLN : ∀ j, (ls j).length ≤ 1000 := fun j => by
      by_cases e : j = 0
      · subst e; rw [H0.out, RO_len]; omega
      · rw [HO.out j e]; exact Nat.zero_le _
    by_cases hlt : i < len0
    rotate_left
    · have hltI : ¬ (i : Int) < (len0 : Int) := by omega
      go_wp2_with fail
      go_ret
      exact ⟨rfl, HB.out⟩
    have hltI : (i : Int) < (len0 : Int) := by omega
    obtain ⟨x, a, rfl, hab, cW, hx0⟩ := HZ.out i hlt
    have HC0 := hide cW
    clear cW
    have HAB := hide hab
    have c0 : wr.cell? (a.add i) = some (.int .u8 x) := (HB.out.cell (p := a.add i) (by rw [Po.block_add]; exact hab)).trans HC0.out
    have RM := hide (rem4 hx0)
    have HLT := hide hlt
    have HLN' := hide hLN
    clear hlt hab hx0 hLN
    rcases RM.out with hm | hm | hm | hm
    · have HLN := HLN'.out
      have SE := hide (MO_send HD.out.1)
      have MC := message_c (s : Int) 5 wr
      clear HLN
      go_wp2_with fail
      refine MC.mono ?_
      rintro e w1 ⟨rfl, hb1⟩
      have HP1 := hide (HP.out.below hb1)
      have HB1 := hide (HB.out.trans (hb1.mono HB.out.size))
      have SC := hide (Send_c HP1.out.pq.hq ⟨⟨#[]⟩, 1, 0, s, 5, 0, 1, false⟩ (by rw [MO_len]; omega))
      rw [SE.out.1, SE.out.2] at SC
      clear hb1 MC
      go_wp2_with fail
      refine SC.out.mono ?_
      rintro e w2 ⟨rfl, hg⟩
      obtain ⟨L2, K2, hp2, hb2, _⟩ := HP1.out.go HB1.out.size (GoesPQ.of_q HP1.out.pq hg)
      have HP2 := hide hp2
      have HB2 := hide (HB1.out.trans hb2)
      have HD2 := hide (show d ≤ s + 1 ∧ d ≤ g from ⟨by have := HD.out.1; omega, HD.out.2⟩)
      clear hg hp2 hb2 SC c0
      go_wp2_with fail
      go_roundw
      case rel => exact ⟨i + 1, s + 1, g, d, L2, K2, ls, pe, HLT.out, by go_num, by go_num, rfl, by omega, by omega, HD2, HPE, H0, HO, HP2, HB2⟩
      case measure => have := HLT.out; simp [RowKit.intOf] <;> omega
    · have HLN := HLN'.out
      have PP := hide (RO_post (ls := ls) (g := g) (d := d) (pe := pe) (p := -1) (by have := HD.out; omega) H0.out (by decide))
      have RC := receive_c (g : Int) (-1) (-1) wr
      go_wp2_with fail
      refine RC.mono ?_
      rintro e w1 ⟨rfl, hb1⟩
      have HP1 := hide (HP.out.below hb1)
      have HB1 := hide (HB.out.trans (hb1.mono HB.out.size))
      have PC := hide (Post_c HP1.out.pq.hp (fun j hj => HLN j) ⟨#[]⟩ 0 (g : Int) (-1) (-1) (-1) false 0 0)
      rw [PP.out.1] at PC
      clear hb1 RC
      go_wp2_with fail
      refine PC.out.mono ?_
      rintro e w2 ⟨rfl, hg⟩
      obtain ⟨L2, K2, hp2, hb2, _⟩ := HP1.out.go HB1.out.size (GoesPQ.of_p HP1.out.pq hg)
      have HP2 := hide hp2
      have HB2 := hide (HB1.out.trans hb2)
      have H02 := hide PP.out.2.1
      have HO2 := hide (fun j (hj : j ≠ 0) => (PP.out.2.2 j hj).trans (HO.out j hj))
      have HD2 := hide (show d ≤ s ∧ d ≤ g + 1 from ⟨HD.out.1, by have := HD.out.2; omega⟩)
      have HPE2 := hide (show ∀ j, updF pe g (-1) j = 1 ∨ updF pe g (-1) j = -1 from fun j => by
        by_cases e : j = g
        · subst e; rw [updF_at]; decide
        · rw [updF_ne pe g _ e]; exact HPE.out j)
      clear hg hp2 hb2 PC c0
      go_wp2_with fail
      go_roundw
      case rel => exact ⟨i + 1, s, g + 1, d, L2, K2, _, updF pe g (-1), HLT.out, by go_num, rfl, by go_num, by omega, by omega, HD2, HPE2, H02, HO2, HP2, HB2⟩
      case measure => have := HLT.out; simp [RowKit.intOf] <;> omega
    · have HLN := HLN'.out
      have PP := hide (RO_post (ls := ls) (g := g) (d := d) (pe := pe) (p := 1) (by have := HD.out; omega) H0.out (by decide))
      have RC := receive_c (g : Int) (1) (-1) wr
      go_wp2_with fail
      refine RC.mono ?_
      rintro e w1 ⟨rfl, hb1⟩
      have HP1 := hide (HP.out.below hb1)
      have HB1 := hide (HB.out.trans (hb1.mono HB.out.size))
      have PC := hide (Post_c HP1.out.pq.hp (fun j hj => HLN j) ⟨#[]⟩ 0 (g : Int) (1) (-1) (-1) false 0 0)
      rw [PP.out.1] at PC
      clear hb1 RC
      go_wp2_with fail
      refine PC.out.mono ?_
      rintro e w2 ⟨rfl, hg⟩
      obtain ⟨L2, K2, hp2, hb2, _⟩ := HP1.out.go HB1.out.size (GoesPQ.of_p HP1.out.pq hg)
      have HP2 := hide hp2
      have HB2 := hide (HB1.out.trans hb2)
      have H02 := hide PP.out.2.1
      have HO2 := hide (fun j (hj : j ≠ 0) => (PP.out.2.2 j hj).trans (HO.out j hj))
      have HD2 := hide (show d ≤ s ∧ d ≤ g + 1 from ⟨HD.out.1, by have := HD.out.2; omega⟩)
      have HPE2 := hide (show ∀ j, updF pe g (1) j = 1 ∨ updF pe g (1) j = -1 from fun j => by
        by_cases e : j = g
        · subst e; rw [updF_at]; decide
        · rw [updF_ne pe g _ e]; exact HPE.out j)
      clear hg hp2 hb2 PC c0
      go_wp2_with fail
      go_roundw
      case rel => exact ⟨i + 1, s, g + 1, d, L2, K2, _, updF pe g (1), HLT.out, by go_num, rfl, by go_num, by omega, by omega, HD2, HPE2, H02, HO2, HP2, HB2⟩
      case measure => have := HLT.out; simp [RowKit.intOf] <;> omega
    · go_wp2_with fail
      clear c0
      go_loopw [9, 10] (fun v9 _ wk => ∃ (k d : Nat) (L : Nat → Option Addr × Nat) (K : QL) (ls : Nat → List Rc), k ≤ g ∧ v9 = .int .i64 k ∧ Hid (d ≤ s ∧ d ≤ g ∧ (k ≤ d ∨ d = s)) ∧ Hid (ls 0 = RO g d pe) ∧ Hid (∀ j, j ≠ 0 → ls j = []) ∧ Hid (P1 wk W.heap.size p q L K ls (MO s d)) ∧ Hid (Below W.heap.size W wk)) (fun v9 _ _ => g - (RowKit.intOf v9).toNat)
      case atStart => exact ⟨0, d, L, K, ls, Nat.zero_le _, rfl, hide ⟨HD.out.1, HD.out.2, .inl (Nat.zero_le _)⟩, H0, HO, HP, HB⟩
      case round =>
        clear HD H0 HO HP HB HLN'
        obtain ⟨k, d, L, K, ls, hk, rfl, HD, H0, HO, HP, HB⟩ := hrel
        rename World => wk
        have HLN := hide (show ∀ j, (ls j).length ≤ 1000 from fun j => by
          by_cases e : j = 0
          · subst e; rw [H0.out, RO_len]; omega
          · rw [HO.out j e]; exact Nat.zero_le _)
        by_cases hkg : k < g
        · have hkgI : (k : Int) < (g : Int) := by omega
          have HLK := hide hkg
          have MY := hide (may_c HP.out.pq.hp (fun j _ => HLN.out j) HP.out.pq.hq (by rw [MO_len]; omega) 0 (by omega) (k : Int))
          rw [H0.out] at MY
          by_cases hc : k < d ∨ s ≤ d
          · have hml : mayL (MO s d) (RO g d pe) k = [] := by
              rcases Nat.lt_or_ge k d with h | h
              · exact (RO_may hkg HPE.out).1 h
              · exact (RO_may hkg HPE.out).2.1 h (by omega)
            rw [hml] at MY
            have HD2 := hide (show d ≤ s ∧ d ≤ g ∧ (k + 1 ≤ d ∨ d = s) from ⟨HD.out.1, HD.out.2.1, by have := HD.out.1; omega⟩)
            clear hml hc hkg
            go_wp2_with fail
            refine MY.out.mono ?_
            rintro e w1 ⟨A1, c1, rfl, _, hb1⟩
            have HP1 := hide (HP.out.below hb1)
            have HB1 := hide (HB.out.trans (hb1.mono HB.out.size))
            clear hb1 MY
            go_wp2_with fail
            go_roundw
            case rel => exact ⟨k + 1, d, L, K, ls, HLK.out, by go_num, HD2, H0, HO, HP1, HB1⟩
            case measure => have := HLK.out; simp [RowKit.intOf] <;> omega
          · have hds := HD.out
            obtain rfl : d = k := by omega
            have hks : d < s := by omega
            have hml : mayL (MO s d) (RO g d pe) d = [msO d d] := (RO_may hkg HPE.out).2.2 rfl hks
            have HMM : Hid (hasB (mayL (MO s d) (ls 0) d) 1 d = true) := hide (by rw [H0.out, hml]; exact hasB_of (List.mem_singleton.2 (rfl : msO d d = msO d d)))
            have HMT := hide (RO_match (g := g) (pe := pe) hks)
            rw [hml] at MY
            have HD2 := hide (show d + 1 ≤ s ∧ d + 1 ≤ g ∧ (d + 1 ≤ d + 1 ∨ d + 1 = s) from ⟨hks, hkg, .inl (Nat.le_refl _)⟩)
            clear hml hc hkg hds hks
            go_wp2_with fail
            refine MY.out.mono ?_
            rintro e w1 ⟨A1, c1, rfl, ho, hb1⟩
            obtain ⟨ga, rfl, haw, hc1, hcd⟩ := one_row (p := p) (q := q) (L := L) (K := K) ho HP.out.pq.lt
            have hcc : w1.cell? ⟨ga, 3, none⟩ = some (.int .i64 (d : Int)) := hcd
            clear hcd
            have HP1 := hide (HP.out.below hb1)
            have HB1 := hide (HB.out.trans (hb1.mono HB.out.size))
            have MC := hide (Match_c HP1.out.pq (fun j _ => HLN.out j) (by rw [MO_len]; omega) 0 (by omega) (d : Int) 1 (d : Int))
            unfold matchE matchP matchQ at MC
            rw [HMM.out, H0.out, HMT.out.1, HMT.out.2] at MC
            clear ho hb1 MY haw
            go_wp2_with fail
            refine MC.out.mono ?_
            rintro e w2 ⟨rfl, hg⟩
            obtain ⟨L2, K2, hp2, hb2, _⟩ := HP1.out.go HB1.out.size hg
            have HP2 := hide hp2
            have HB2 := hide (HB1.out.trans hb2)
            have H02 := hide (updF_at ls 0 (RO g (d + 1) pe))
            have HO2 := hide (fun j (hj : j ≠ 0) => (updF_ne ls 0 (RO g (d + 1) pe) hj).trans (HO.out j hj))
            clear hg hp2 hb2 MC hcc
            go_wp2_with fail
            go_roundw
            case rel => exact ⟨d + 1, d + 1, L2, K2, _, HLK.out, by go_num, HD2, H02, HO2, HP2, HB2⟩
            case measure => have := HLK.out; simp [RowKit.intOf] <;> omega
        · have hkgI : ¬ (k : Int) < (g : Int) := by omega
          have HDE := hide (show d ≤ s ∧ d ≤ g ∧ (g ≤ d ∨ d = s) from ⟨HD.out.1, HD.out.2.1, by have := HD.out.2.2; omega⟩)
          clear hkg
          go_wp2_with fail
          go_loopw [11, 12, 13] (fun v11 _ _ wt => ∃ k : Nat, k ≤ g ∧ v11 = .int .i64 k ∧ Hid (Below wk.heap.size wk wt)) (fun v11 _ _ _ => g - (RowKit.intOf v11).toNat)
          case atStart => exact ⟨0, Nat.zero_le _, rfl, hide (Below.refl _ _)⟩
          case round =>
            clear hkgI
            obtain ⟨k, hk, rfl, HBT⟩ := hrel
            rename World => wt
            have HPT := hide (HP.out.below HBT.out)
            by_cases hkg : k < g
            rotate_left
            · have hkgI : ¬ (k : Int) < (g : Int) := by omega
              have HB3 := hide (HB.out.trans (HBT.out.mono HB.out.size))
              have HD3 := hide (show d ≤ s ∧ d ≤ g from ⟨HDE.out.1, HDE.out.2.1⟩)
              go_wp2_with fail
              go_roundw
              case rel => exact ⟨i + 1, s, g, d, L, K, ls, pe, HLT.out, by go_num, rfl, rfl, by omega, by omega, HD3, HPE, H0, HO, HPT, HB3⟩
              case measure => have := HLT.out; simp [RowKit.intOf] <;> omega
            have hkgI : (k : Int) < (g : Int) := by omega
            have HLK := hide hkg
            have HLN := HLN.out
            by_cases hkd : k < d
            · have hksI : (k : Int) < (s : Int) := by have := HDE.out.1; omega
              have hksN : k < s := by omega
              have hds : decide ((k : Int) < (s : Int)) = true := decide_eq_true hksI
              have hdn : decide (k < s) = true := decide_eq_true hksN
              have RV : rcO d pe k = ⟨⟨#[]⟩, 0, k, pe k, -1, -1, true, 1, (k : Int)⟩ := by unfold rcO; simp [hkd]
              have AC : Hid (Calls Try.prog 13 #[.pointer (some ⟨p, 0, none⟩), .int .i64 0, .int .i64 (k : Int)] wt fun e w' => e = .returned (.tuple #[.agg #[.string ⟨#[]⟩, .int .i64 0, .int .i64 (k : Int), .int .i64 (pe k), .int .i64 (-1), .int .i64 (-1), .bool true, .int .i64 1, .int .i64 (k : Int)], .bool true]) ∧ Below wt.heap.size wt w') := hide (by
                have h := at_c (HPT.out.pq.hp) (fun j hj => HLN j) 0 (by omega) (k : Int)
                rw [H0.out, RO_at hkg, RV] at h
                exact h)
              clear RV
              go_wp2_with fail
              refine AC.out.mono ?_
              rintro e wu ⟨rfl, hbu⟩
              have bx := (Below.refl wu.heap.size wu).alloc (Nat.le_refl _) (.cells #[.string ⟨#[]⟩, .int .i64 0, .int .i64 (k : Int), .int .i64 (pe k), .int .i64 (-1), .int .i64 (-1), .bool true, .int .i64 1, .int .i64 (k : Int)] 35)
              have kx := Blk.new wu 35 #[.string ⟨#[]⟩, .int .i64 0, .int .i64 (k : Int), .int .i64 (pe k), .int .i64 (-1), .int .i64 (-1), .bool true, .int .i64 1, .int .i64 (k : Int)]
              obtain ⟨wv, hwv⟩ : ∃ z, wu.alloc (.cells #[.string ⟨#[]⟩, .int .i64 0, .int .i64 (k : Int), .int .i64 (pe k), .int .i64 (-1), .int .i64 (-1), .bool true, .int .i64 1, .int .i64 (k : Int)] 35) = z := ⟨_, rfl⟩
              obtain ⟨Y, hY⟩ : ∃ z, wu.heap.size = z := ⟨_, rfl⟩
              rw [hwv] at bx kx
              rw [hY] at kx
              have HWV := hide hwv
              have HY := hide hY
              have HBV := hide (HBT.out.trans ((hbu.trans (bx.mono hbu.size)).mono HBT.out.size))
              have y6 : wv.cell? ⟨Y, 6, none⟩ = some (.bool true) := kx.cell 6
              have y7 : wv.cell? ⟨Y, 7, none⟩ = some (.int .i64 1) := kx.cell 7
              have y8 : wv.cell? ⟨Y, 8, none⟩ = some (.int .i64 (k : Int)) := kx.cell 8
              clear hbu bx kx hwv hY AC
              go_upto_region 23 with (fail)
              rw [HWV.out, HY.out]
              go_wp2_with fail
              clear y6 y7 y8
              go_roundw
              case rel => exact ⟨k + 1, HLK.out, by go_num, HBV⟩
              case measure => have := HLK.out; simp [RowKit.intOf] <;> omega
            · have hksI : ¬ (k : Int) < (s : Int) := by have := HDE.out.2.2; omega
              have hksN : ¬ k < s := by omega
              have hds : decide ((k : Int) < (s : Int)) = false := decide_eq_false hksI
              have hdn : decide (k < s) = false := decide_eq_false hksN
              have RV : rcO d pe k = ⟨⟨#[]⟩, 0, k, pe k, -1, -1, false, 0, 0⟩ := by unfold rcO; simp [hkd]
              have AC : Hid (Calls Try.prog 13 #[.pointer (some ⟨p, 0, none⟩), .int .i64 0, .int .i64 (k : Int)] wt fun e w' => e = .returned (.tuple #[.agg #[.string ⟨#[]⟩, .int .i64 0, .int .i64 (k : Int), .int .i64 (pe k), .int .i64 (-1), .int .i64 (-1), .bool false, .int .i64 0, .int .i64 0], .bool true]) ∧ Below wt.heap.size wt w') := hide (by
                have h := at_c (HPT.out.pq.hp) (fun j hj => HLN j) 0 (by omega) (k : Int)
                rw [H0.out, RO_at hkg, RV] at h
                exact h)
              clear RV
              go_wp2_with fail
              refine AC.out.mono ?_
              rintro e wu ⟨rfl, hbu⟩
              have bx := (Below.refl wu.heap.size wu).alloc (Nat.le_refl _) (.cells #[.string ⟨#[]⟩, .int .i64 0, .int .i64 (k : Int), .int .i64 (pe k), .int .i64 (-1), .int .i64 (-1), .bool false, .int .i64 0, .int .i64 0] 35)
              have kx := Blk.new wu 35 #[.string ⟨#[]⟩, .int .i64 0, .int .i64 (k : Int), .int .i64 (pe k), .int .i64 (-1), .int .i64 (-1), .bool false, .int .i64 0, .int .i64 0]
              obtain ⟨wv, hwv⟩ : ∃ z, wu.alloc (.cells #[.string ⟨#[]⟩, .int .i64 0, .int .i64 (k : Int), .int .i64 (pe k), .int .i64 (-1), .int .i64 (-1), .bool false, .int .i64 0, .int .i64 0] 35) = z := ⟨_, rfl⟩
              obtain ⟨Y, hY⟩ : ∃ z, wu.heap.size = z := ⟨_, rfl⟩
              rw [hwv] at bx kx
              rw [hY] at kx
              have HWV := hide hwv
              have HY := hide hY
              have HBV := hide (HBT.out.trans ((hbu.trans (bx.mono hbu.size)).mono HBT.out.size))
              have y6 : wv.cell? ⟨Y, 6, none⟩ = some (.bool false) := kx.cell 6
              have y7 : wv.cell? ⟨Y, 7, none⟩ = some (.int .i64 0) := kx.cell 7
              have y8 : wv.cell? ⟨Y, 8, none⟩ = some (.int .i64 0) := kx.cell 8
              clear hbu bx kx hwv hY AC
              go_upto_region 23 with (fail)
              rw [HWV.out, HY.out]
              go_wp2_with fail
              clear y6 y7 y8
              go_roundw
              case rel => exact ⟨k + 1, HLK.out, by go_num, HBV⟩
              case measure => have := HLK.out; simp [RowKit.intOf] <;> omega
end Go.Proofs.Ytonmojinijpneaa.PostedOvertakesW
