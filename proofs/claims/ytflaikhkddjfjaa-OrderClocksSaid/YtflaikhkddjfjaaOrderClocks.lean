/- OrderClocks. -/
import Derived.Test.YtflaikhkddjfjaaRows
import Derived.Test.YtflaikhkddjfjaaOrdM
import Derived.LoopN
namespace Go.Proofs.Ytflaikhkddjfjaa.OrderClocksW
open Go Go.RowKit Go.Proofs.Ytflaikhkddjfjaa Go.Proofs.Ytflaikhkddjfjaa.Ord
set_option linter.unusedVariables false
set_option linter.unusedSimpArgs false
set_option maxRecDepth 100000 in
set_option maxHeartbeats 8000000 in
theorem walk {H : Type} {enc : TypeId × Value → H} {base : Nat} (W : World) (a0 : Int) (w0 : (Lit.int .i64 a0).wf = true) (v1 : Value) (d1 : DataW H) (p1 : List MemPlace) (o1 : Value.okWide Try.prog W .any base 22 v1) (r1 : DataW.Trod enc Try.prog W 0 (fun _ => true) true 22 v1 d1 p1) :
    Calls Try.prog 3 #[.int .i64 a0, v1] W fun e w' => e = .returned (.bool true) ∧ Below W.heap.size W w' := by
  obtain ⟨A, len, cap, F, rfl, hlen, hev⟩ := evs_of o1 r1
  have GR := hide (Great_a A len cap F W hlen hev)
  have BG := hide (fun (w' : World) (hb : Below W.heap.size W w') (hs : Small F len) => begin_c a0 A len cap F w' hlen (hev.below hb) hs)
  clear o1 r1 hev w0
  go_enter Try.func3, Try.ntmps3
  go_wp2_with fail
  refine GR.out.mono ?_
  rintro e W1 ⟨rfl | ⟨rfl, hs⟩, hb1⟩
  · have HB1 := hide hb1
    clear hb1
    go_wp2_with fail
    go_ret
    exact ⟨rfl, HB1.out⟩
  have BG1 := hide (BG.out W1 hb1 hs)
  have HB1 := hide hb1
  clear hs hb1
  go_wp2_with fail
  refine BG1.out.mono ?_
  rintro e W2 ⟨rfl | ⟨o, o', es, gs, rfl, hbo, hle⟩, hb2⟩
  · have HB2 := hide (HB1.out.trans (hb2.mono HB1.out.size))
    clear hb2
    go_wp2_with fail
    go_ret
    exact ⟨rfl, HB2.out⟩
  have HB2 := hide (HB1.out.trans (hb2.mono HB1.out.size))
  obtain ⟨n, hn⟩ : ∃ x, a0.toNat = x := ⟨_, rfl⟩
  rw [hn] at hbo
  have BO := hide hbo
  have HEL := hide hbo.el
  have hn1 := hbo.n1
  have hn64 := hbo.n64
  have DP := hide (refDepths_c n len o' W1.heap.size (evN F) (fun k => (es.getD k default).d) gs W2 hbo.b hbo.gl hle (fun k hk => hbo.depth hk) (fun k hk => by have := hbo.depth_le hk; show (es.getD k default).d ≤ 1000; omega))
  clear hb2 hbo hn
  go_wp2_with fail
  refine DP.out.mono ?_
  rintro e W3 ⟨dv, rfl, hdo, hb3⟩
  obtain ⟨DA, dc, rfl⟩ := own_form hdo
  have DO := hide hdo
  have BO3 := hide (BO.out.below hb3)
  have HB3 := hide (HB2.out.trans (hb3.mono HB2.out.size))
  clear hdo hb3
  go_wp2_with fail
  go_loopw [9] (fun vi ws => ∃ i : Nat, i ≤ len ∧ vi = .int .i64 i ∧ Hid (Below W3.heap.size W3 ws)) (fun vi _ => len - (intOf vi).toNat)
  case atStart => exact ⟨0, by omega, rfl, hide (Below.refl _ _)⟩
  case round =>
    obtain ⟨i, hi, rfl, HB⟩ := hrel
    rename World => W4
    have BO4 := hide (BO3.out.below HB.out)
    by_cases hlt : i < len
    rotate_left
    · have hltI : ¬ (i : Int) < (len : Int) := by omega
      obtain rfl : i = len := by omega
      have CN := hide (Clock_no o W1.heap.size W1.heap.size es i W4 BO4.out.a (decide_eq_false (by have := HEL.out; omega)))
      have DN := hide (Depth_c o W1.heap.size W1.heap.size es (-1) W4 BO4.out.a)
      rw [show inB es (-1) = false from decide_eq_false (by omega), if_neg (by decide)] at DN
      have MN := hide (Many_c o W1.heap.size W1.heap.size es W4 BO4.out.a)
      rw [HEL.out] at MN
      have HBF := hide (HB3.out.trans (HB.out.mono HB3.out.size))
      go_wp2_with fail
      refine CN.out.mono ?_
      rintro e w' ⟨rfl, rfl⟩
      go_wp2_with fail
      refine DN.out.mono ?_
      rintro e w' ⟨rfl, rfl⟩
      go_wp2_with fail
      refine MN.out.mono ?_
      rintro e w' ⟨rfl, rfl⟩
      go_wp2_with fail
      go_ret
      exact ⟨by simp, HBF.out⟩
    have hltI : (i : Int) < (len : Int) := by omega
    have hle' : i < es.length := by rw [HEL.out]; exact hlt
    have HLE' := hide hle'
    clear hle'
    go_wp2_with fail
    go_loopw [10] (fun vt ws => ∃ t : Nat, t ≤ 2 ∧ vt = .int .i64 t ∧ Hid (Below W4.heap.size W4 ws)) (fun vt _ => 2 - (intOf vt).toNat)
    case atStart => exact ⟨0, by omega, rfl, hide (Below.refl _ _)⟩
    case round =>
      obtain ⟨t, ht, rfl, HBt⟩ := hrel
      rename World => W5
      have BO5 := hide (BO4.out.below HBt.out)
      by_cases htl : t < 2
      rotate_left
      · have htlI : ¬ (t : Int) < 2 := by omega
        have DN := hide (Depth_c o W1.heap.size W1.heap.size es i W5 BO5.out.a)
        rw [inB_yes HLE'.out, if_pos rfl, Int.toNat_natCast] at DN
        have hb35 := HB.out.trans (HBt.out.mono HB.out.size)
        obtain ⟨gd, hgd, _, cd⟩ := row_at (own_belowR DO.out hb35) (show i < (natI (fL (fun k => (es.getD k default).d) len)).length by rw [natI_len, fL_len]; exact hlt) (by rw [natI_len, fL_len])
        rw [fL_at _ hlt] at cd
        subst hgd
        have HB35 := hide hb35
        clear hb35
        generalize (es.getD i default).d = dd at *
        have hdd : ((dd : Int) != (dd : Int)) = false := by simp
        go_wp2_with fail
        refine DN.out.mono ?_
        rintro e w' ⟨rfl, rfl⟩
        go_wp2_with fail
        go_roundw
        case rel => exact ⟨i + 1, by omega, by go_num, HB35⟩
        case measure => simp [intOf] <;> omega
      have htlI : (t : Int) < 2 := by omega
      have CY := hide (Clock_yes o W1.heap.size W1.heap.size n es (evN F) i W5 BO5.out.a BO5.out.s hn64 HLE'.out)
      rw [BO5.out.clock hlt] at CY
      go_wp2_with fail
      refine CY.out.mono ?_
      rintro e W6 ⟨cv, rfl, hco, hb6⟩
      obtain ⟨CA, cc, rfl⟩ := own_form hco
      have CO := hide hco
      have HB6 := hide hb6
      have RC := hide (refClock_c n len o' W1.heap.size i (evN F) gs W6 (BO5.out.below hb6).b BO5.out.gl hle hn1 hn64 (fun k hk => BO5.out.ranks hk) hlt)
      clear hco hb6
      go_wp2_with fail
      refine RC.out.mono ?_
      rintro e W7 ⟨rv, rfl, hro, hb7⟩
      obtain ⟨RA, rc, rfl⟩ := own_form hro
      have co7 := own_belowR CO.out hb7
      have HB7 := hide (HB6.out.trans (hb7.mono HB6.out.size))
      have hcl : (clkL n (evN F) i len).length = n := clkL_len _ _ _ _
      have IS := ints_same CA RA (clkL n (evN F) i len) (clkL n (evN F) i len) cc rc _ _ W7 (own_rd co7 hcl) (own_rd hro hcl) (by rw [hcl]; unfold maxLen; omega) (by rw [hcl]; unfold maxLen; omega)
      rw [sameB_mk rfl (fun _ _ => rfl), hcl] at IS
      have HIS := hide IS
      obtain ⟨L, hL⟩ : ∃ x, clkL n (evN F) i len = x := ⟨_, rfl⟩
      rw [hL] at co7 hcl
      obtain ⟨g, rfl, hge, _⟩ := row_at co7 (show 0 < L.length by omega) hcl
      have OR7 := hide (OwnRow.of_own (l := L) co7 hcl.symm rfl)
      have HCL := hide hcl
      clear IS hro hb7 co7 hcl hL CO RC
      go_wp2_with fail
      refine HIS.out.mono ?_
      rintro e W8 ⟨rfl, n8, rfl⟩
      have OR8 := hide (OwnRow.drewN OR7.out n8)
      have HB8 := hide (below_drewN HB7.out n8)
      have HGE := hide hge
      clear hge OR7
      go_wp2_with fail
      go_loopw [13] (fun vk ws => ∃ (k : Nat) (l : List Int), k ≤ n ∧ vk = .int .i64 k ∧ Hid (l.length = n) ∧ Hid (OwnRow ws W5.heap.size g cc l) ∧ Hid (Below W5.heap.size W5 ws)) (fun vk _ => n - (intOf vk).toNat)
      case atStart => exact ⟨0, L, by omega, rfl, HCL, OR8, HB8⟩
      case round =>
        clear OR8 HB8
        obtain ⟨k, l, hk, rfl, HLL, OR, HBk⟩ := hrel
        rename World => W9
        by_cases hkn : k < n
        · have hknI : (k : Int) < (n : Int) := by omega
          have cx := OR.out.cell k (by rw [HLL.out]; exact hkn)
          have cf := OR.out.frozen k
          have OR2 := hide (OR.out.set_ k (-9))
          have HBk2 := hide (HBk.out.setCell (p := ⟨g, k, none⟩) HGE.out (.int .i64 (-9)))
          have HLL2 := hide (show (l.set k (-9)).length = n by rw [List.length_set]; exact HLL.out)
          generalize l.getD k 0 = z at *
          go_wp2_with fail
          go_roundw
          case rel => exact ⟨k + 1, _, by omega, by go_num, HLL2, OR2, HBk2⟩
          case measure => simp [intOf] <;> omega
        · have hknI : ¬ (k : Int) < (n : Int) := by omega
          have HBn := hide (HBt.out.trans (HBk.out.mono HBt.out.size))
          go_wp2_with fail
          go_roundw
          case rel => exact ⟨t + 1, by omega, by go_num, HBn⟩
          case measure => simp [intOf] <;> omega
end Go.Proofs.Ytflaikhkddjfjaa.OrderClocksW
