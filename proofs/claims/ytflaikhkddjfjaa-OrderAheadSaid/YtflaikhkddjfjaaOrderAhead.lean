/- OrderAhead. -/
import Derived.Test.YtflaikhkddjfjaaRows
import Derived.Test.YtflaikhkddjfjaaOrdM
import Derived.Test.YtflaikhkddjfjaaQuietBelow
import Derived.LoopN
namespace Go.Proofs.Ytflaikhkddjfjaa.OrderAheadW
open Go Go.RowKit Go.Proofs.Ytflaikhkddjfjaa Go.Proofs.Ytflaikhkddjfjaa.Ord
set_option linter.unusedVariables false
set_option linter.unusedSimpArgs false
set_option maxRecDepth 100000 in
set_option maxHeartbeats 8000000 in
theorem walk {H : Type} {enc : TypeId × Value → H} {base : Nat} (W : World) (a0 : Int) (w0 : (Lit.int .i64 a0).wf = true) (v1 : Value) (d1 : DataW H) (p1 : List MemPlace) (o1 : Value.okWide Try.prog W .any base 22 v1) (r1 : DataW.Trod enc Try.prog W 0 (fun _ => true) true 22 v1 d1 p1) (a2 : Int) (w2 : (Lit.int .i64 a2).wf = true) :
    Calls Try.prog 4 #[.int .i64 a0, v1, .int .i64 a2] W fun e w' => e = .returned (.bool true) ∧ Below W.heap.size W w' := by
  obtain ⟨A, len, cap, F, rfl, hlen, hev⟩ := evs_of o1 r1
  have GR := hide (Great_a A len cap F W hlen hev)
  have BG := hide (fun (w' : World) (hb : Below W.heap.size W w') (hs : Small F len) => begin_c a0 A len cap F w' hlen (hev.below hb) hs)
  clear o1 r1 hev w0 w2
  go_enter Try.func4, Try.ntmps4
  go_wp2_with fail
  refine GR.out.mono ?_
  rintro e W1 ⟨rfl | ⟨rfl, hs⟩, hb1⟩
  · have HB1 := hide hb1
    clear hb1
    go_wp2_with fail
    go_ret
    exact ⟨rfl, HB1.out⟩
  have BG1 := hide (BG.out W1 hb1 hs)
  have HB1 := hide hb1
  clear hs hb1
  go_wp2_with fail
  refine BG1.out.mono ?_
  rintro e W2 ⟨rfl | ⟨o, o', es, gs, rfl, hbo, hle⟩, hb2⟩
  · have HB2 := hide (HB1.out.trans (hb2.mono HB1.out.size))
    clear hb2
    go_wp2_with fail
    go_ret
    exact ⟨rfl, HB2.out⟩
  have HB2 := hide (HB1.out.trans (hb2.mono HB1.out.size))
  have BO := hide hbo
  have HEL := hide hbo.el
  have HGL := hide hbo.gl
  have HLE := hide hle
  obtain ⟨n, hn⟩ : ∃ x, a0.toNat = x := ⟨_, rfl⟩
  rw [hn] at BO
  clear hb2 hbo hn
  go_wp2_with fail
  go_loopw [10, 11] (fun vo vi ws => ∃ (i : Nat) (P : Option Addr) (pc : Nat), i ≤ len ∧ vi = .int .i64 i ∧ vo = .slice P (pastL es a2 i).length pc ∧ Hid (ws.ownsRow W2.heap.size 3 1 (.slice P (pastL es a2 i).length pc) (pastL es a2 i).length (ints (natI (pastL es a2 i)))) ∧ Hid (Below W2.heap.size W2 ws)) (fun _ vi _ => len - (intOf vi).toNat)
  case atStart => exact ⟨0, none, 0, by omega, rfl, rfl, hide ⟨rfl, .inl ⟨rfl, rfl⟩⟩, hide (Below.refl _ _)⟩
  case round =>
    obtain ⟨i, P, pc, hi, rfl, rfl, OW, HB⟩ := hrel
    rename World => W3
    have HBW := hide (HB2.out.trans (HB.out.mono HB2.out.size))
    by_cases hlt : i < len
    rotate_left
    · have hltI : ¬ (i : Int) < (len : Int) := by omega
      obtain rfl : i = len := by omega
      have BO3 := hide (BO.out.below HB.out)
      have PC := hide (Past_c o W1.heap.size W1.heap.size n es (evN F) a2 W3 BO3.out.a BO3.out.s (by have := HEL.out; omega))
      have AC1 := hide (fun (w' : World) (hb : Below W3.heap.size W3 w') => Ahead_b o W1.heap.size W1.heap.size n es (evN F) (-1) 0 w' (BO3.out.below hb).a BO3.out.s)
      have AC2 := hide (fun (w' : World) (hb : Below W3.heap.size W3 w') => Ahead_b o W1.heap.size W1.heap.size n es (evN F) 0 i w' (BO3.out.below hb).a BO3.out.s)
      have f1 : aheadB es (-1) 0 = false := by
        have : inB es (-1) = false := decide_eq_false (by omega)
        simp [aheadB, this]
      have f2 : aheadB es 0 i = false := by
        have : inB es i = false := decide_eq_false (by have := HEL.out; omega)
        simp [aheadB, this]
      rw [f1] at AC1
      rw [f2] at AC2
      clear f1 f2
      have ow := OW.out
      rw [HEL.out] at PC
      obtain ⟨l, hl⟩ : ∃ x, pastL es a2 i = x := ⟨_, rfl⟩
      rw [hl] at ow PC
      have hlen2 : l.length ≤ i := by rw [← hl]; exact pastL_le es a2 i
      rw [hl]
      clear hl OW
      obtain ⟨m, hm⟩ : ∃ x, natI l = x := ⟨_, rfl⟩
      have hml : l.length = m.length := by rw [← hm, natI_len]
      rw [hm, hml] at ow PC
      rw [hml]
      have hm2 : m.length ≤ 200 := by omega
      clear hm hml hlen2
      have OW := hide ow
      have RD := hide (fun (w' : World) (hb : Below W3.heap.size W3 w') => own_rd (own_belowR ow hb) rfl)
      clear ow
      go_wp2_with fail
      refine PC.out.mono ?_
      rintro e W4 ⟨v, rfl, hv, hb4⟩
      obtain ⟨A4, c4, rfl⟩ := own_form hv
      have IS := hide (ints_same A4 P m m c4 pc _ _ W4 (own_rd hv rfl) (RD.out W4 hb4) (by unfold maxLen; omega) (by unfold maxLen; omega))
      rw [sameB_mk rfl (fun _ _ => rfl)] at IS
      have HB4 := hide hb4
      clear hv hb4
      go_wp2_with fail
      refine IS.out.mono ?_
      rintro e W5 ⟨rfl, n5, rfl⟩
      have HB5 := hide (below_drewN HB4.out n5)
      have A1 := hide (AC1.out _ HB5.out)
      go_wp2_with fail
      refine A1.out.mono ?_
      rintro e W6 ⟨rfl, hb6⟩
      have HB6 := hide (HB5.out.trans (hb6.mono HB5.out.size))
      have A2 := hide (AC2.out _ HB6.out)
      clear hb6
      go_wp2_with fail
      refine A2.out.mono ?_
      rintro e W7 ⟨rfl, hb7⟩
      have HB7 := hide (HB6.out.trans (hb7.mono HB6.out.size))
      clear hb7
      go_wp2_with fail
      go_ret
      exact ⟨rfl, HBW.out.trans (HB7.out.mono HBW.out.size)⟩
    have hltI : (i : Int) < (len : Int) := by omega
    go_wp2_with fail
    go_loopw [12] (fun vk ws => ∃ k : Nat, k ≤ len ∧ vk = .int .i64 k ∧ Hid (Below W3.heap.size W3 ws)) (fun vk _ => len - (intOf vk).toNat)
    case atStart => exact ⟨0, by omega, rfl, hide (Below.refl _ _)⟩
    case round =>
      obtain ⟨k, hk, rfl, HBk⟩ := hrel
      rename World => W4
      have HB4 := hide (HB.out.trans (HBk.out.mono HB.out.size))
      by_cases hkl : k < len
      · have hklI : (k : Int) < (len : Int) := by omega
        have bo4 := BO.out.below HB4.out
        have AC := hide (fun (m : Nat) => Ahead_c o W1.heap.size W1.heap.size n es (evN F) i k (W4.drewN m) (bo4.a.drewN m) bo4.s)
        rw [bo4.ahead hlt hkl] at AC
        obtain ⟨R, rc, gA, ac, b, cg, brow⟩ := bo4.b.row (i := k) (by rw [bo4.gl]; exact hkl)
        have b2 := b.cell 2
        simp only [List.getElem?_toArray, List.getElem?_cons_succ, List.getElem?_cons_zero] at b2
        rw [HGL.out] at b2
        have ca := brow.cell (m := i) hlt
        obtain ⟨gk, hgk⟩ : ∃ x, gs[k]'(by rw [bo4.gl]; exact hkl) = x := ⟨_, rfl⟩
        rw [hgk] at cg ca
        clear bo4 b brow hgk
        generalize ahB (evN F) k i = x at *
        have hxx : (x != x) = false := by simp
        go_wp2_with fail
        go_quiet ((go_at_call 17; exact Calls.quiet_of (AC.out _)))
        have HQ := hide (fun (m : Nat) => below_drewN HBk.out m)
        clear b2 cg ca
        go_wp2_with fail
        go_roundw
        case rel => exact ⟨k + 1, by omega, by go_num, hide (HQ.out _)⟩
        case measure => simp [intOf] <;> omega
      have hklI : ¬ (k : Int) < (len : Int) := by omega
      obtain rfl : k = len := by omega
      have ow := own_belowR OW.out HBk.out
      have PS := hide (pastL_succ es a2 i)
      have PL := hide (pastL_le es a2 i)
      have HBW4 := hide (HB2.out.trans (HB4.out.mono HB2.out.size))
      by_cases hin : inB es a2 = true
      rotate_left
      · have hin : inB es a2 = false := by simpa using hin
        have hab : aheadB es i a2 = false := by simp [aheadB, hin]
        rw [hab] at PS
        have PS2 := hide (show pastL es a2 (i + 1) = pastL es a2 i by rw [PS.out]; simp)
        have OW2 := hide ow
        have hno : ¬ (0 ≤ a2 ∧ a2 < (k : Int)) := by
          have := of_decide_eq_false hin
          rw [HEL.out] at this
          exact this
        clear hab hin ow
        by_cases h0 : 0 ≤ a2
        · have h1 : ¬ a2 < (k : Int) := fun h => hno ⟨h0, h⟩
          clear hno
          go_wp2_with fail
          go_roundw
          case rel => exact ⟨i + 1, P, pc, by omega, by go_num, by rw [PS2.out], by rw [PS2.out]; exact OW2, HB4⟩
          case measure => simp [intOf] <;> omega
        · clear hno
          go_wp2_with fail
          go_roundw
          case rel => exact ⟨i + 1, P, pc, by omega, by go_num, by rw [PS2.out], by rw [PS2.out]; exact OW2, HB4⟩
          case measure => simp [intOf] <;> omega
      have hin' := of_decide_eq_true hin
      rw [HEL.out] at hin'
      obtain ⟨at_, rfl⟩ : ∃ a : Nat, a2 = (a : Int) := ⟨a2.toNat, by omega⟩
      have hat : at_ < k := by omega
      have hatI : (at_ : Int) < (k : Int) := by omega
      have bo4 := BO.out.below HB4.out
      rw [bo4.ahead hlt hat] at PS
      obtain ⟨R, rc, gA, ac, b, cg, brow⟩ := bo4.b.row (i := at_) (by rw [bo4.gl]; exact hat)
      have b2 := b.cell 2
      simp only [List.getElem?_toArray, List.getElem?_cons_succ, List.getElem?_cons_zero] at b2
      rw [HGL.out] at b2
      have ca := brow.cell (m := i) hlt
      obtain ⟨gk, hgk⟩ : ∃ x, gs[at_]'(by rw [bo4.gl]; exact hat) = x := ⟨_, rfl⟩
      rw [hgk] at cg ca
      clear bo4 b brow hin hin' hgk
      cases hx : ahB (evN F) at_ i with
      | false =>
        rw [hx] at ca PS
        have PS2 := hide (show pastL es at_ (i + 1) = pastL es at_ i by rw [PS.out]; simp)
        have OW2 := hide ow
        clear hx ow
        go_wp2_with fail
        go_roundw
        case rel => exact ⟨i + 1, P, pc, by omega, by go_num, by rw [PS2.out], by rw [PS2.out]; exact OW2, HB4⟩
        case measure => simp [intOf] <;> omega
      | true =>
        rw [hx] at ca PS
        have PS2 := hide (show pastL es at_ (i + 1) = pastL es at_ i ++ [i] by rw [PS.out]; simp)
        obtain ⟨P5, c5, W5, hrun, hown, hb5, hk5, hob5, hbl5⟩ := push_int W4 W2.heap.size P pc _ (natI (pastL es at_ i)) (i : Int) (natI_len _) ow HB4.out.size (by have := PL.out; have := HLE.out; omega)
        have OW5 : Hid (W5.ownsRow W2.heap.size 3 1 (.slice P5 (pastL es at_ (i + 1)).length c5) (pastL es at_ (i + 1)).length (ints (natI (pastL es at_ (i + 1))))) := hide (by
          rw [PS2.out, List.length_append, natI_app]
          exact hown)
        have HB5 := hide (HB4.out.trans hb5)
        have PSL := hide (show (pastL es at_ i).length + 1 = (pastL es at_ (i + 1)).length by rw [PS2.out]; simp)
        clear hx hown hb5 ow hk5 hob5 hbl5
        go_wp2_with (at_builtin; refine Lib.wpList_append_run _ rfl (.tmp 76) (.tmp 78) _ _ rfl _ _ rfl rfl _ W5 hrun ?_)
        go_roundw
        case rel => exact ⟨i + 1, P5, c5, by omega, by go_num, by rw [← PSL.out], OW5, HB5⟩
        case measure => simp [intOf] <;> omega
end Go.Proofs.Ytflaikhkddjfjaa.OrderAheadW
