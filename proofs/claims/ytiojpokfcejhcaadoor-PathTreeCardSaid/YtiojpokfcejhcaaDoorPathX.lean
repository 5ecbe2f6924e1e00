/- The chapter's example of layer 24: awake. -/
import Derived.Test.YtiojpokfcejhcaaDoorRows
import Derived.Test.YtiojpokfcejhcaaDoorPathW
import Derived.Test.YtiojpokfcejhcaaDoorPathU
namespace Go.Proofs.YtiojpokfcejhcaaDoor
open Go Go.RowKit Go.Proofs.YtiojpokfcejhcaaDoor.PathTextsW
open Go.Lib (itoa decDigits)
set_option linter.unusedVariables false
set_option linter.unusedSimpArgs false
namespace Pth
theorem it0 : itoa 0 = [48] := by unfold itoa; rw [if_neg (by decide)]; show decDigits 0 = _; unfold decDigits; rfl
theorem it1 : itoa 1 = [49] := by unfold itoa; rw [if_neg (by decide)]; show decDigits 1 = _; unfold decDigits; rfl
theorem it2 : itoa 2 = [50] := by unfold itoa; rw [if_neg (by decide)]; show decDigits 2 = _; unfold decDigits; rfl
def xs0 : List Ch := [⟨1, 2, 0, 0, 0⟩, ⟨1, 2, 1, 0, 0⟩]
def sp0 : Sp := ⟨false, 1, 2, ⟨1, 2, 0, 0, 0⟩⟩
def sp1 : Sp := ⟨false, 1, 2, ⟨1, 2, 1, 0, 0⟩⟩
def sp2 : Sp := ⟨true, 1, 2, ⟨0, 0, 0, 0, 0⟩⟩
theorem sp0_t : (bytes (stT (stOf sp0))).toList == [49, 46, 50, 46, 48, 46, 48, 46, 48] := by
  have : bytes (stT (stOf sp0)) = ⟨#[49, 46, 50, 46, 48, 46, 48, 46, 48]⟩ := by simp [stT, stOf, sp0, dot, it0, it1, it2, bytes]
  rw [this, ByteArray.toList_eq]
  rfl
theorem sp1_t : (bytes (stT (stOf sp1))).toList == [49, 46, 50, 46, 48, 46, 49, 46, 48] := by
  have : bytes (stT (stOf sp1)) = ⟨#[49, 46, 50, 46, 48, 46, 49, 46, 48]⟩ := by simp [stT, stOf, sp1, dot, it0, it1, it2, bytes]
  rw [this, ByteArray.toList_eq]
  rfl
theorem sp2_t : (bytes (stT (stOf sp2))).toList == [111, 102, 102, 46, 49, 46, 50] := by
  have : bytes (stT (stOf sp2)) = ⟨#[111, 102, 102, 46, 49, 46, 50]⟩ := by simp [stT, stOf, sp2, dot, it0, it1, it2, bytes]
  rw [this, ByteArray.toList_eq]
  rfl
theorem sp_ok0 : (stOf sp0).ok := by unfold stOf sp0 St.ok Fit64; decide
theorem sp_ok1 : (stOf sp1).ok := by unfold stOf sp1 St.ok Fit64; decide
theorem sp_ok2 : (stOf sp2).ok := by unfold stOf sp2 St.ok Fit64; decide
/-- The example's level. -/
def lv (A : Option Addr) (cap k : Nat) : Lv := ⟨1, 2, A, cap, xs0, true, k⟩
theorem lv_next0 (A : Option Addr) (cap : Nat) : nextL [lv A cap 0] = [lv A cap 1] := by
  have := nextL_snoc [] (lv A cap 0)
  rw [List.nil_append] at this
  rw [this]
  rfl
theorem lv_next1 (A : Option Addr) (cap : Nat) : nextL [lv A cap 1] = [lv A cap 2] := by
  have := nextL_snoc [] (lv A cap 1)
  rw [List.nil_append] at this
  rw [this]
  rfl
theorem lv_next2 (A : Option Addr) (cap : Nat) : nextL [lv A cap 2] = [] := by
  have := nextL_snoc [] (lv A cap 2)
  rw [List.nil_append] at this
  rw [this]
  rfl
theorem lv_fit {A : Option Addr} {cap k : Nat} (hk : k ≤ 2) : ∀ x ∈ [lv A cap k], x.fit := fun x hx => by
  rw [List.mem_singleton.1 hx]
  refine ⟨?_, ?_, ?_⟩
  · show 0 < xs0.length
    decide
  · show xs0.length ≤ 100
    decide
  · show k + 1 ≤ 3
    omega
theorem xs0_ok : ∀ i (hi : i < xs0.length), xs0[i].ok := by
  intro i hi
  match i, hi with
  | 0, _ =>
    show Ch.ok ⟨1, 2, 0, 0, 0⟩
    unfold Ch.ok Fit64
    decide
  | 1, _ =>
    show Ch.ok ⟨1, 2, 1, 0, 0⟩
    unfold Ch.ok Fit64
    decide
set_option maxRecDepth 100000 in
set_option maxHeartbeats 8000000 in
theorem awake_c (w : World) (hp : Pow w) :
    Calls Tryd.prog 5 #[] w fun e w' => e = .returned (.bool true) ∧ Below w.heap.size w w' := by
  have HP := hide hp
  have NW := hide (New_a w)
  clear hp
  go_enter Tryd.func5, Tryd.ntmps5
  go_wp2_with fail
  refine NW.out.mono ?_
  rintro e w1 ⟨rfl, ht1, hb1⟩
  have S1 := hide (show StA w1 w.heap.size w.heap.size [] from ⟨by simp, ⟨_, ht1, rfl, .inl ⟨rfl, rfl⟩⟩, fun i hi => absurd hi (Nat.not_lt_zero i)⟩)
  have HB1 := hide hb1
  have PT := hide (point_a 1 2 2 w1 (by omega))
  clear ht1 hb1
  go_wp2_with fail
  refine PT.out.mono ?_
  rintro e w2 ⟨v2, rfl, ho2, hb2⟩
  obtain ⟨A2, c2, rfl, hcr⟩ := own_crow (l := xs0) (show w2.ownsRow w1.heap.size 47 5 v2 xs0.length (chs xs0) from ho2) xs0_ok (by decide)
  have S2 := hide (S1.out.below hb2)
  have HB2 := hide (HB1.out.trans (hb2.mono HB1.out.size))
  have PY : Hid (Calls Tryd.prog 10 #[.pointer (some ⟨w.heap.size, 0, none⟩), .agg #[.int .i64 1, .int .i64 2, .slice A2 2 c2], .bool true] w2 fun e w' => e = .returned (.int .i64 0) ∧ (∃ g cap', StA w' w.heap.size w.heap.size [lv (some ⟨g, 0, none⟩) cap' 0]) ∧ Below w.heap.size w2 w') := hide ((Push_yes w.heap.size w.heap.size [] 1 2 A2 c2 xs0 true w2 S2.out (Nat.le_refl _) hcr (by decide) (by decide) (by decide)).mono (by
    rintro e w' ⟨rfl, ⟨g, cap', _, h⟩, hb, _⟩
    exact ⟨rfl, ⟨g, cap', h⟩, hb⟩))
  clear ho2 hb2 hcr
  go_wp2_with fail
  refine PY.out.mono ?_
  rintro e w3 ⟨rfl, ⟨g, cap, hs3⟩, hb3⟩
  have S3 := hide hs3
  have HB3 := hide (HB2.out.trans hb3)
  have PN := hide (Push_no w.heap.size w.heap.size _ 0 0 none 0 [] true w3 hs3 ⟨by simp [maxLen], fun h => absurd h (Nat.lt_irrefl 0)⟩ (by simp) (.inl (by decide)))
  have e2 : pushE 0 0 [] = 2 := by decide
  rw [e2] at PN
  have PN : Hid (Calls Tryd.prog 10 #[.pointer (some ⟨w.heap.size, 0, none⟩), .agg #[.int .i64 0, .int .i64 0, .slice none 0 0], .bool true] w3 fun e w' => e = .returned (.int .i64 2) ∧ Below w3.heap.size w3 w') := PN
  clear hs3 hb3 e2
  go_wp2_with fail
  refine PN.out.mono ?_
  rintro e w4 ⟨rfl, hb4⟩
  have S4 := hide (S3.out.below hb4)
  have HB4 := hide (HB3.out.trans (hb4.mono HB3.out.size))
  have LF := hide (Left_a w.heap.size w.heap.size _ w4 S4.out (lv_fit (by omega)))
  have LF : Hid (Calls Tryd.prog 17 #[.pointer (some ⟨w.heap.size, 0, none⟩)] w4 fun e w' => e = .returned (.int .i64 2) ∧ Below w4.heap.size w4 w') := LF
  clear hb4
  go_wp2_with fail
  refine LF.out.mono ?_
  rintro e w5 ⟨rfl, hb5⟩
  have S5 := hide (S4.out.below hb5)
  have HB5 := hide (HB4.out.trans (hb5.mono HB4.out.size))
  have ST := hide (Steps_a w.heap.size w.heap.size _ w5 S5.out (lv_fit (by omega)))
  clear hb5
  go_wp2_with fail
  refine ST.out.mono ?_
  rintro e w6 ⟨v6, rfl, ho6, hb6⟩
  have S6 := hide (S5.out.below hb6)
  have HB6 := hide (HB5.out.trans (hb6.mono HB5.out.size))
  have TX := hide (text_one sp0 v6 _ w6 ho6 sp_ok0 (HP.out.below HB6.out (Nat.le_refl _)))
  have E0 : ((bytes (stT (stOf sp0))).toList == [49, 46, 50, 46, 48, 46, 48, 46, 48]) = true := sp0_t
  generalize bytes (stT (stOf sp0)) = s0 at *
  obtain ⟨a6, c6, rfl⟩ := own_form ho6
  clear ho6 hb6
  go_wp2_with fail
  refine TX.out.mono ?_
  rintro e w7 ⟨rfl, hb7⟩
  have S7 := hide (S6.out.below hb7)
  have HB7 := hide (HB6.out.trans (hb7.mono HB6.out.size))
  have NX := hide (Next_a w.heap.size w.heap.size _ w7 S7.out (Nat.le_refl _) (lv_fit (by omega)))
  rw [lv_next0] at NX
  have NX : Hid (Calls Tryd.prog 14 #[.pointer (some ⟨w.heap.size, 0, none⟩)] w7 fun e w' => e = .returned (.bool true) ∧ StA w' w.heap.size w.heap.size [lv (some ⟨g, 0, none⟩) cap 1] ∧ Below w.heap.size w7 w' ∧ Only (stB w7 w.heap.size) w7 w' ∧ ∀ j ∈ stB w' w.heap.size, j ∈ stB w7 w.heap.size) := NX
  clear hb7
  go_wp2_with fail
  refine NX.out.mono ?_
  rintro e w8 ⟨rfl, hs8, hb8, _⟩
  have S8 := hide hs8
  have HB8 := hide (HB7.out.trans hb8)
  have ST := hide (Steps_a w.heap.size w.heap.size _ w8 S8.out (lv_fit (by omega)))
  clear hs8 hb8
  go_wp2_with fail
  refine ST.out.mono ?_
  rintro e w9 ⟨v9, rfl, ho9, hb9⟩
  have S9 := hide (S8.out.below hb9)
  have HB9 := hide (HB8.out.trans (hb9.mono HB8.out.size))
  have TX := hide (text_one sp1 v9 _ w9 ho9 sp_ok1 (HP.out.below HB9.out (Nat.le_refl _)))
  have E1 : ((bytes (stT (stOf sp1))).toList == [49, 46, 50, 46, 48, 46, 49, 46, 48]) = true := sp1_t
  generalize bytes (stT (stOf sp1)) = s1 at *
  obtain ⟨a9, c9, rfl⟩ := own_form ho9
  clear ho9 hb9
  go_wp2_with fail
  refine TX.out.mono ?_
  rintro e w10 ⟨rfl, hb10⟩
  have S10 := hide (S9.out.below hb10)
  have HB10 := hide (HB9.out.trans (hb10.mono HB9.out.size))
  have NX := hide (Next_a w.heap.size w.heap.size _ w10 S10.out (Nat.le_refl _) (lv_fit (by omega)))
  rw [lv_next1] at NX
  have NX : Hid (Calls Tryd.prog 14 #[.pointer (some ⟨w.heap.size, 0, none⟩)] w10 fun e w' => e = .returned (.bool true) ∧ StA w' w.heap.size w.heap.size [lv (some ⟨g, 0, none⟩) cap 2] ∧ Below w.heap.size w10 w' ∧ Only (stB w10 w.heap.size) w10 w' ∧ ∀ j ∈ stB w' w.heap.size, j ∈ stB w10 w.heap.size) := NX
  clear hb10
  go_wp2_with fail
  refine NX.out.mono ?_
  rintro e w11 ⟨rfl, hs11, hb11, _⟩
  have S11 := hide hs11
  have HB11 := hide (HB10.out.trans hb11)
  have ST := hide (Steps_a w.heap.size w.heap.size _ w11 S11.out (lv_fit (by omega)))
  clear hs11 hb11
  go_wp2_with fail
  refine ST.out.mono ?_
  rintro e w12 ⟨v12, rfl, ho12, hb12⟩
  have S12 := hide (S11.out.below hb12)
  have HB12 := hide (HB11.out.trans (hb12.mono HB11.out.size))
  have TX := hide (text_one sp2 v12 _ w12 ho12 sp_ok2 (HP.out.below HB12.out (Nat.le_refl _)))
  have E2 : ((bytes (stT (stOf sp2))).toList == [111, 102, 102, 46, 49, 46, 50]) = true := sp2_t
  generalize bytes (stT (stOf sp2)) = s2 at *
  obtain ⟨a12, c12, rfl⟩ := own_form ho12
  clear ho12 hb12
  go_wp2_with fail
  refine TX.out.mono ?_
  rintro e w13 ⟨rfl, hb13⟩
  have S13 := hide (S12.out.below hb13)
  have HB13 := hide (HB12.out.trans (hb13.mono HB12.out.size))
  have NX := hide (Next_a w.heap.size w.heap.size _ w13 S13.out (Nat.le_refl _) (lv_fit (by omega)))
  rw [lv_next2] at NX
  have NX : Hid (Calls Tryd.prog 14 #[.pointer (some ⟨w.heap.size, 0, none⟩)] w13 fun e w' => e = .returned (.bool false) ∧ StA w' w.heap.size w.heap.size [] ∧ Below w.heap.size w13 w' ∧ Only (stB w13 w.heap.size) w13 w' ∧ ∀ j ∈ stB w' w.heap.size, j ∈ stB w13 w.heap.size) := NX
  clear hb13
  go_wp2_with fail
  refine NX.out.mono ?_
  rintro e w14 ⟨rfl, hs14, hb14, _⟩
  have S14 := hide hs14
  have HB14 := hide (HB13.out.trans hb14)
  have ST := hide (Steps_a w.heap.size w.heap.size _ w14 S14.out (fun x hx => by cases hx))
  clear hs14 hb14
  go_wp2_with fail
  refine ST.out.mono ?_
  rintro e w15 ⟨v15, rfl, ho15, hb15⟩
  have S15 := hide (S14.out.below hb15)
  have HB15 := hide (HB14.out.trans (hb15.mono HB14.out.size))
  obtain ⟨a15, c15, rfl⟩ := own_form ho15
  have TX := hide (text_a0 a15 c15 w15)
  have E3 : ((⟨#[45]⟩ : ByteArray).toList == [45]) = true := by rw [ByteArray.toList_eq]; rfl
  have DP := hide (depth_a w.heap.size w.heap.size [] w15 S15.out)
  have DP : Hid (Calls Tryd.prog 12 #[.pointer (some ⟨w.heap.size, 0, none⟩)] w15 fun e w' => e = .returned (.int .i64 0) ∧ w15 = w') := DP
  have TX : Hid (Calls Tryd.prog 18 #[.slice a15 0 c15] w15 fun e w' => e = .returned (.string ⟨#[45]⟩) ∧ w15 = w') := TX
  clear ho15 hb15
  go_wp2_with fail
  refine TX.out.mono ?_
  rintro e w16 ⟨rfl, rfl⟩
  go_wp2_with fail
  refine DP.out.mono ?_
  rintro e w16 ⟨rfl, rfl⟩
  go_wp2_with fail
  go_ret
  exact ⟨rfl, HB15.out⟩
end Pth
end Go.Proofs.YtiojpokfcejhcaaDoor
