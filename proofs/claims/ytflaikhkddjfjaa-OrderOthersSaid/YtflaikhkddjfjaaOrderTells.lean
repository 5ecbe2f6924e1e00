/- OrderTells. -/
import Derived.Test.YtflaikhkddjfjaaRows
import Derived.Test.YtflaikhkddjfjaaOrdV
import Derived.Test.YtflaikhkddjfjaaOrdZ
import Derived.LoopN
namespace Go.Proofs.Ytflaikhkddjfjaa.OrderTellsW
open Go Go.RowKit Go.Proofs.Ytflaikhkddjfjaa Go.Proofs.Ytflaikhkddjfjaa.Ord
set_option linter.unusedVariables false
set_option linter.unusedSimpArgs false
def Awake : Prop := ∀ W : World, Calls Try.prog 23 #[] W fun e w' => e = .returned (.bool true) ∧ Below W.heap.size W w'
set_option maxRecDepth 100000 in
set_option maxHeartbeats 8000000 in
theorem walkA (hA : Awake) {H : Type} {enc : TypeId × Value → H} {base : Nat} (W : World) (a0 : Int) (w0 : (Lit.int .i64 a0).wf = true) (v1 : Value) (d1 : DataW H) (p1 : List MemPlace) (o1 : Value.okWide Try.prog W .any base 22 v1) (r1 : DataW.Trod enc Try.prog W 0 (fun _ => true) true 22 v1 d1 p1) :
    Calls Try.prog 6 #[.int .i64 a0, v1] W fun e w' => e = .returned (.bool true) ∧ Below W.heap.size W w' := by
  obtain ⟨A, len, cap, F, rfl, hlen, hev⟩ := evs_of o1 r1
  have AW := hide (hA W)
  have GR := hide (fun (w' : World) (hb : Below W.heap.size W w') => Great_a A len cap F w' hlen (hev.below hb))
  have OC := hide (fun (w' : World) (hb : Below W.heap.size W w') (hs : Small F len) => Of_c a0 A len cap F w' hlen (hev.below hb) hs)
  clear o1 r1 hev w0 hA
  go_enter Try.func6, Try.ntmps6
  go_wp2_with fail
  refine AW.out.mono ?_
  rintro e Wa ⟨rfl, hba⟩
  have HBa := hide hba
  have GR1 := hide (GR.out Wa hba)
  clear hba
  go_wp2_with fail
  refine GR1.out.mono ?_
  rintro e W1 ⟨rfl | ⟨rfl, hs⟩, hb1⟩
  · have HB1 := hide (HBa.out.trans (hb1.mono HBa.out.size))
    clear hb1
    go_wp2_with fail
    go_ret
    exact ⟨rfl, HB1.out⟩
  have HB1 := hide (HBa.out.trans (hb1.mono HBa.out.size))
  have OC1 := hide (OC.out W1 HB1.out hs)
  have SM := hide hs
  clear hs hb1
  go_wp2_with fail
  refine OC1.out.mono ?_
  rintro e W2 ⟨⟨rfl, _⟩ | ⟨o, es, rfl, hg, _, ho, hgr, hel⟩, hb2⟩
  · have HB2 := hide (HB1.out.trans (hb2.mono HB1.out.size))
    clear hb2
    go_wp2_with fail
    go_ret
    exact ⟨rfl, HB2.out⟩
  have HB2 := hide (HB1.out.trans (hb2.mono HB1.out.size))
  have hle : len ≤ 120 := by
    rcases SM.out with h | h
    · exact h.1
    · have := hg.2.2.1; omega
  obtain ⟨n, hn⟩ : ∃ x, a0.toNat = x := ⟨_, rfl⟩
  have hn1 : 1 ≤ n := by have := hg.1; omega
  have hn64 : n ≤ 64 := by have := hg.2.1; omega
  rw [hn] at hgr
  have TW := hide (⟨hgr.sound hn1 hn64 (by omega), hgr.fit hn1 hn64 (by omega)⟩ : Two n (evN F) es)
  have HO := hide ho
  have HEL := hide hel
  clear hb2 hg ho hgr hel hn
  go_wp2_with fail
  go_loopw [7] (fun vi ws => ∃ i : Nat, i ≤ len ∧ vi = .int .i64 i ∧ Hid (Below W2.heap.size W2 ws)) (fun vi _ => len - (intOf vi).toNat)
  case atStart => exact ⟨0, by omega, rfl, hide (Below.refl _ _)⟩
  case round =>
    obtain ⟨i, hi, rfl, HB⟩ := hrel
    rename World => W3
    have HBW := hide (HB2.out.trans (HB.out.mono HB2.out.size))
    by_cases hlt : i < len
    rotate_left
    · have hltI : ¬ (i : Int) < (len : Int) := by omega
      go_wp2_with fail
      go_ret
      exact ⟨rfl, HBW.out⟩
    have hltI : (i : Int) < (len : Int) := by omega
    have HIE := hide (show i < es.length by rw [HEL.out]; exact hlt)
    have CY := hide (Clock_yes o W1.heap.size W1.heap.size n es (evN F) i W3 (HO.out.below HB.out) TW.out.s hn64 HIE.out)
    go_wp2_with fail
    refine CY.out.mono ?_
    rintro e W4 ⟨cv, rfl, hco, hb4⟩
    obtain ⟨CA, cc, rfl⟩ := own_form hco
    have CO := hide hco
    have HB4 := hide (HB.out.trans (hb4.mono HB.out.size))
    clear hco hb4
    go_wp2_with fail
    go_loopw [10] (fun vk ws => ∃ k : Nat, k ≤ len ∧ vk = .int .i64 k ∧ Hid (Below W4.heap.size W4 ws)) (fun vk _ => len - (intOf vk).toNat)
    case atStart => exact ⟨0, by omega, rfl, hide (Below.refl _ _)⟩
    case round =>
      obtain ⟨k, hk, rfl, HBk⟩ := hrel
      rename World => W5
      have HB5 := hide (HB4.out.trans (HBk.out.mono HB4.out.size))
      by_cases hkl : k < len
      rotate_left
      · have hklI : ¬ (k : Int) < (len : Int) := by omega
        go_wp2_with fail
        go_roundw
        case rel => exact ⟨i + 1, by omega, by go_num, HB5⟩
        case measure => simp [intOf] <;> omega
      have hklI : (k : Int) < (len : Int) := by omega
      have HKE := hide (show k < es.length by rw [HEL.out]; exact hkl)
      have CK := hide (Clock_yes o W1.heap.size W1.heap.size n es (evN F) k W5 (HO.out.below HB5.out) TW.out.s hn64 HKE.out)
      go_wp2_with fail
      refine CK.out.mono ?_
      rintro e W6 ⟨dv, rfl, hdo, hb6⟩
      obtain ⟨DA, dc, rfl⟩ := own_form hdo
      have HB6k := HBk.out.trans (hb6.mono HBk.out.size)
      have HB6 := hide (HB4.out.trans (HB6k.mono HB4.out.size))
      have co6 := own_belowR CO.out HB6k
      have li := TW.out.s.len i HIE.out
      have lk := TW.out.s.len k HKE.out
      have OF := of_a CA DA (es.getD i default).ck (es.getD k default).ck cc dc W6 (own_rd co6 li) (own_rd hdo lk) (by rw [li]; unfold maxLen; omega) (by rw [lk]; unfold maxLen; omega)
      rw [li, lk, TW.out.e0 HIE.out HKE.out] at OF
      have U := TW.out.u HIE.out HKE.out
      have HOF := hide OF
      have HB6kh := hide HB6k
      obtain ⟨u, hu⟩ : ∃ x, ofU (es.getD i default).ck (es.getD k default).ck = x := ⟨_, rfl⟩
      rw [hu] at HOF U
      have HU := hide U
      clear U hu OF co6 hdo hb6 HB6k li lk
      go_wp2_with fail
      refine HOF.out.mono ?_
      rintro e W7 ⟨rfl, hb7⟩
      have HB7 := hide (HB6.out.trans (hb7.mono HB6.out.size))
      have HB7k := hide (HB6kh.out.trans (hb7.mono HB6kh.out.size))
      have AH := hide (Ahead_b o W1.heap.size W1.heap.size n es (evN F) i k W7 (HO.out.below HB7.out) TW.out.s)
      have b1 : ((u : Int) == 1) = aheadB es i k := by
        have := HU.out.1
        cases h : aheadB es i k with
        | true => rw [h] at this; have := this.2 rfl; simp; omega
        | false => rw [h] at this; have : ¬ u = 1 := fun e => by have := this.1 e; cases this
                   simp; omega
      have b0 : ((u : Int) == 0) = ((i : Int) == (k : Int)) := by
        have := HU.out.2
        by_cases e : i = k
        · have h0 := this.2 e
          subst e
          simp [h0]
        · have h0 : ¬ u = 0 := fun h => e (this.1 h)
          have e1 : ((u : Int) == 0) = false := by simp; omega
          have e2 : ((i : Int) == (k : Int)) = false := by simp; omega
          rw [e1, e2]
      clear hb7
      generalize aheadB es i k = x at *
      have hxx : (x != x) = false := by simp
      obtain ⟨y, hy⟩ : ∃ y, ((i : Int) == (k : Int)) = y := ⟨_, rfl⟩
      rw [hy] at b0
      have hyy : (y != y) = false := by simp
      go_wp2_with fail
      refine AH.out.mono ?_
      rintro e W8 ⟨rfl, hb8⟩
      have HB8k := hide (HB7k.out.trans (hb8.mono HB7k.out.size))
      clear hb8
      go_wp2_with fail
      go_roundw
      case rel => exact ⟨k + 1, by omega, by go_num, HB8k⟩
      case measure => simp [intOf] <;> omega
theorem walk {H : Type} {enc : TypeId × Value → H} {base : Nat} (W : World) (a0 : Int) (w0 : (Lit.int .i64 a0).wf = true) (v1 : Value) (d1 : DataW H) (p1 : List MemPlace) (o1 : Value.okWide Try.prog W .any base 22 v1) (r1 : DataW.Trod enc Try.prog W 0 (fun _ => true) true 22 v1 d1 p1) :
    Calls Try.prog 6 #[.int .i64 a0, v1] W fun e w' => e = .returned (.bool true) ∧ Below W.heap.size W w' :=
  walkA awake_c W a0 w0 v1 d1 p1 o1 r1
end Go.Proofs.Ytflaikhkddjfjaa.OrderTellsW
