/- The chapter's example: awake. -/
import Derived.Test.YtflaikhkddjfjaaRows
import Derived.Test.YtflaikhkddjfjaaOrdY
import Derived.LoopN
namespace Go.Proofs.Ytflaikhkddjfjaa
open Go Go.RowKit
set_option linter.unusedVariables false
set_option linter.unusedSimpArgs false
namespace Ord
theorem rd_lit (w : World) (l : List Int) : Rd (w.alloc (.cells (ints l).toArray 3)) (w.alloc (.cells (ints l).toArray 3)).heap.size (some ⟨w.heap.size, 0, none⟩) l := by
  have kb := Blk.new w 3 (ints l).toArray
  exact ⟨by simp [ints], fun _ => ⟨_, rfl, kb.lt, fun j u hu => by rw [add_lit, kb.cell]; simpa using hu⟩⟩
/-- The same numbers as some that are written out. -/
theorem ints_lit (w : World) (A : Option Addr) (cap : Nat) (l : List Int) (hr : Rd w w.heap.size A l) (hm : l.length ≤ 200) :
    Calls Try.prog 13 #[.slice A l.length cap, .slice (some ⟨w.heap.size, 0, none⟩) l.length l.length] (w.alloc (.cells (ints l).toArray 3)) fun e w' => e = .returned (.bool true) ∧ Below w.heap.size w w' := by
  have hb := (Below.refl w.heap.size w).alloc (Nat.le_refl _) (.cells (ints l).toArray 3)
  refine (ints_same _ _ l l cap l.length _ _ _ (rd_on hr hb) (rd_lit w l) (by unfold maxLen; omega) (by unfold maxLen; omega)).mono ?_
  rintro e w' ⟨rfl, n, rfl⟩
  exact ⟨by rw [show sameB l l = true from decide_eq_true rfl], below_drewN hb n⟩
def exF (g i : Nat) : Ec := match i with
  | 0 => ⟨0, none, 0, []⟩
  | 1 => ⟨1, none, 0, []⟩
  | _ => ⟨1, some ⟨g, 0, none⟩, 1, [0]⟩
def exG (g i : Nat) : Ec := ⟨0, some ⟨g, 0, none⟩, 1, [0]⟩
theorem ev_exF (g : Nat) : evN (exF g) = exE := by
  funext i
  match i with
  | 0 => rfl
  | 1 => rfl
  | _ + 2 => rfl
theorem rd_nil (w : World) (B : Nat) : Rd w B none [] := ⟨rfl, fun h => absurd h (Nat.lt_irrefl 0)⟩
theorem ex_evs (w : World) : Evs ((w.alloc (.cells #[.int .i64 0] 3)).alloc (.cells #[.int .i64 0, .slice none 0 0, .int .i64 1, .slice none 0 0, .int .i64 1, .slice (some ⟨w.heap.size, 0, none⟩) 1 1] 56)) (some ⟨w.heap.size + 1, 0, none⟩) 3 (exF w.heap.size) := by
  have kb := Blk.new (w.alloc (.cells #[.int .i64 0] 3)) 56 #[.int .i64 0, .slice none 0 0, .int .i64 1, .slice none 0 0, .int .i64 1, .slice (some ⟨w.heap.size, 0, none⟩) 1 1]
  have hr := rd_on (rd_lit w [0]) ((Below.refl _ (w.alloc (.cells #[.int .i64 0] 3))).alloc (Nat.le_refl _) (.cells #[.int .i64 0, .slice none 0 0, .int .i64 1, .slice none 0 0, .int .i64 1, .slice (some ⟨w.heap.size, 0, none⟩) 1 1] 56))
  rw [show (w.alloc (.cells #[.int .i64 0] 3)).heap.size = w.heap.size + 1 by simp] at kb
  intro i hi
  refine ⟨_, rfl, ?_⟩
  rw [add_lit]
  match i, hi with
  | 0, _ => exact ⟨kb.cell 0, kb.cell 1, rd_nil _ _, Nat.zero_le _, kb.lt⟩
  | 1, _ => exact ⟨kb.cell 2, kb.cell 3, rd_nil _ _, Nat.zero_le _, kb.lt⟩
  | 2, _ => exact ⟨kb.cell 4, kb.cell 5, hr, by show 1 ≤ maxLen; unfold maxLen; omega, kb.lt⟩
theorem ex_evs1 (w : World) : Evs ((w.alloc (.cells #[.int .i64 0] 3)).alloc (.cells #[.int .i64 0, .slice (some ⟨w.heap.size, 0, none⟩) 1 1] 56)) (some ⟨w.heap.size + 1, 0, none⟩) 1 (exG w.heap.size) := by
  have kb := Blk.new (w.alloc (.cells #[.int .i64 0] 3)) 56 #[.int .i64 0, .slice (some ⟨w.heap.size, 0, none⟩) 1 1]
  have hr := rd_on (rd_lit w [0]) ((Below.refl _ (w.alloc (.cells #[.int .i64 0] 3))).alloc (Nat.le_refl _) (.cells #[.int .i64 0, .slice (some ⟨w.heap.size, 0, none⟩) 1 1] 56))
  rw [show (w.alloc (.cells #[.int .i64 0] 3)).heap.size = w.heap.size + 1 by simp] at kb
  intro i hi
  refine ⟨_, rfl, ?_⟩
  rw [add_lit]
  match i, hi with
  | 0, _ => exact ⟨kb.cell 0, kb.cell 1, hr, by show 1 ≤ maxLen; unfold maxLen; omega, kb.lt⟩
theorem below2 (w : World) (o1 o2 : Obj) : Below w.heap.size w ((w.alloc o1).alloc o2) := ((Below.refl _ w).alloc (Nat.le_refl _) o1).alloc (by simp) o2
/-- The first history. -/
theorem ex_of (w : World) : Calls Try.prog 24 #[.int .i64 2, .slice (some ⟨w.heap.size + 1, 0, none⟩) 3 3] ((w.alloc (.cells #[.int .i64 0] 3)).alloc (.cells #[.int .i64 0, .slice none 0 0, .int .i64 1, .slice none 0 0, .int .i64 1, .slice (some ⟨w.heap.size, 0, none⟩) 1 1] 56)) fun e w' => ∃ (o D : Nat) (es : List Eo), e = .returned (.tuple #[.pointer (some ⟨o, 0, none⟩), .int .i64 0]) ∧ OrA w' o D D es ∧ Sound 2 exE es ∧ (∃ A0 C0 a0 c0 A1 C1 a1 c1 A2 C2 a2 c2, es = [ex0 A0 C0 a0 c0, ex1 A1 C1 a1 c1, ex2 A2 C2 a2 c2]) ∧ Below w.heap.size w w' := by
  refine (Of_c 2 _ 3 3 (exF w.heap.size) _ (by unfold maxLen; omega) (ex_evs w) (.inl ⟨by omega, fun i hi => ?_⟩)).mono ?_
  · match i, hi with
    | 0, _ => exact Nat.zero_le _
    | 1, _ => exact Nat.zero_le _
    | 2, _ => show 1 ≤ 20; omega
  · rintro e w' ⟨⟨rfl, hno⟩ | ⟨o, es, rfl, hg, ho, hA, hgr, hl⟩, hb⟩
    · exfalso
      refine hno ⟨by omega, by omega, by omega, fun i hi => ?_⟩
      match i, hi with
      | 0, _ => exact rfl
      | 1, _ => exact rfl
      | 2, _ => exact rfl
    · rw [ev_exF] at hgr
      have hgr2 : Grow 2 exE es := hgr
      exact ⟨o, _, es, rfl, hA, hgr2.sound (by omega) (by omega) (by omega), ex_es hgr2 hl, (below2 w _ _).trans (hb.mono (by simp; omega))⟩
theorem ex_of1 (w : World) : Calls Try.prog 24 #[.int .i64 2, .slice (some ⟨w.heap.size + 1, 0, none⟩) 1 1] ((w.alloc (.cells #[.int .i64 0] 3)).alloc (.cells #[.int .i64 0, .slice (some ⟨w.heap.size, 0, none⟩) 1 1] 56)) fun e w' => e = .returned (.tuple #[.pointer none, .int .i64 2]) ∧ Below w.heap.size w w' := by
  refine (Of_c 2 _ 1 1 (exG w.heap.size) _ (by unfold maxLen; omega) (ex_evs1 w) (.inl ⟨by omega, fun i hi => ?_⟩)).mono ?_
  · show 1 ≤ 20
    omega
  · rintro e w' ⟨⟨rfl, hno⟩ | ⟨o, es, rfl, hg, ho, hA, hgr, hl⟩, hb⟩
    · exact ⟨rfl, (below2 w _ _).trans (hb.mono (by simp; omega))⟩
    · exfalso
      have h := hg.2.2.2 0 (by omega)
      have h2 : mayE 2 0 0 [0] = true := h
      revert h2
      decide
theorem own_rd0 {w : World} {n : Nat} {v : Value} {l : List Int} {B : Nat} (h : w.ownsRow B 3 1 v n (ints l)) (hn : l.length = n) : ∃ A c, v = .slice A n c ∧ Rd w w.heap.size A l := by
  obtain ⟨A, c, rfl⟩ := own_form h
  exact ⟨A, c, rfl, own_rd h hn⟩
set_option maxRecDepth 100000 in
set_option maxHeartbeats 8000000 in
theorem awake_c (W : World) : Calls Try.prog 23 #[] W fun e w' => e = .returned (.bool true) ∧ Below W.heap.size W w' := by
  have OF := hide (ex_of W)
  go_enter Try.func23, Try.ntmps23
  go_wp2_with fail
  refine OF.out.mono ?_
  rintro e W1 ⟨o, D, es, rfl, ho, hS, ⟨A0, C0, a0, c0, A1, C1, a1, c1, A2, C2, a2, c2, hes⟩, hb1⟩
  have HO := hide ho
  have HS := hide hS
  have HB1 := hide hb1
  have L3 := hide (show es.length = 3 by rw [hes]; rfl)
  have K0 := hide (show (es.getD 0 default).ck = [1, 0] by rw [hes]; rfl)
  have K1 := hide (show (es.getD 1 default).ck = [0, 1] by rw [hes]; rfl)
  have K2 := hide (show (es.getD 2 default).ck = [1, 2] by rw [hes]; rfl)
  have D2 := hide (show (if inB es (2 : Int) then (#[.int .i64 ((es.getD (2 : Int).toNat default).d : Int), .int .i64 0] : Array Value) else #[.int .i64 0, .int .i64 2]) = #[.int .i64 2, .int .i64 0] by rw [hes]; rfl)
  have H01 := hide (show aheadB es 0 1 = false by rw [hes]; exact ex_ah01 ..)
  have H10 := hide (show aheadB es 1 0 = false by rw [hes]; exact ex_ah10 ..)
  have H02 := hide (show aheadB es 0 2 = true by rw [hes]; exact ex_ah02 ..)
  have H12 := hide (show aheadB es 1 2 = true by rw [hes]; exact ex_ah12 ..)
  have HPA := hide (show pastL es 2 es.length = [0, 1] by rw [hes]; exact ex_past ..)
  have HIS := hide (show isF es [0, 2, 1] (fun _ => false) = false by rw [hes]; exact ex_is ..)
  have HFI := hide (show firstL es [1] = [1, 0, 2] by rw [hes]; exact ex_first ..)
  have HAL := hide (show ∀ i, i < es.length → ∀ k ∈ (es.getD i default).ah, k < i by
    rw [hes]
    intro i hi
    match i, hi with
    | 0, _ => intro k hk; cases hk
    | 1, _ => intro k hk; cases hk
    | 2, _ =>
      intro k hk
      have : k ∈ [0, 1] := hk
      simp at this
      omega)
  have HAH := hide (show ∀ i, i < es.length → (es.getD i default).ah.length ≤ 30 by
    rw [hes]
    intro i hi
    match i, hi with
    | 0, _ => exact Nat.zero_le _
    | 1, _ => exact Nat.zero_le _
    | 2, _ => show 2 ≤ 30; omega)
  have OF1 := hide (ex_of1 W1)
  clear ho hS hes hb1 OF
  go_wp2_with fail
  refine OF1.out.mono ?_
  rintro e W2 ⟨rfl, hb2⟩
  have HB2 := hide (HB1.out.trans (hb2.mono HB1.out.size))
  have HO2 := hide (HO.out.below hb2)
  have CY0 := hide (Clock_yes o D D 2 es exE 0 W2 HO2.out HS.out (by omega) (by rw [L3.out]; omega))
  rw [K0.out] at CY0
  clear hb2 HO OF1
  go_wp2_with fail
  refine CY0.out.mono ?_
  rintro e W3 ⟨v0, rfl, hw0, hb3⟩
  obtain ⟨B0, b0, rfl, hr0⟩ := own_rd0 hw0 rfl
  have R0 := hide hr0
  have HB3 := hide (HB2.out.trans (hb3.mono HB2.out.size))
  have HO3 := hide (HO2.out.below hb3)
  have CY1 := hide (Clock_yes o D D 2 es exE 1 W3 HO3.out HS.out (by omega) (by rw [L3.out]; omega))
  rw [K1.out] at CY1
  clear hb3 hw0 hr0 CY0 HO2
  go_wp2_with fail
  refine CY1.out.mono ?_
  rintro e W4 ⟨v1, rfl, hw1, hb4⟩
  obtain ⟨B1, b1, rfl, hr1⟩ := own_rd0 hw1 rfl
  have R1 := hide hr1
  have HB4 := hide (HB3.out.trans (hb4.mono HB3.out.size))
  have HO4 := hide (HO3.out.below hb4)
  have R0 := hide (rd_on R0.out hb4)
  have CY2 := hide (Clock_yes o D D 2 es exE 2 W4 HO4.out HS.out (by omega) (by rw [L3.out]; omega))
  rw [K2.out] at CY2
  clear hb4 hw1 hr1 CY1 HO3
  go_wp2_with fail
  refine CY2.out.mono ?_
  rintro e W5 ⟨v2, rfl, hw2, hb5⟩
  obtain ⟨B2, b2, rfl, hr2⟩ := own_rd0 hw2 rfl
  have R2 := hide hr2
  have HB5 := hide (HB4.out.trans (hb5.mono HB4.out.size))
  have HO5 := hide (HO4.out.below hb5)
  have R0 := hide (rd_on R0.out hb5)
  have R1 := hide (rd_on R1.out hb5)
  have DC := hide (Depth_c o D D es 2 W5 HO5.out)
  rw [D2.out] at DC
  clear hb5 hw2 hr2 CY2 HO4
  go_wp2_with fail
  refine DC.out.mono ?_
  rintro e w' ⟨rfl, rfl⟩
  have I0 := hide (ints_lit W5 B0 b0 [1, 0] R0.out (by decide))
  clear DC
  go_wp2_with fail
  refine I0.out.mono ?_
  rintro e W6 ⟨rfl, hb6⟩
  have HB6 := hide (HB5.out.trans (hb6.mono HB5.out.size))
  have HO6 := hide (HO5.out.below hb6)
  have R2 := hide (rd_on R2.out hb6)
  have I1 := hide (ints_lit W6 B1 b1 [0, 1] (rd_on R1.out hb6) (by decide))
  clear hb6 I0 HO5 R0 R1
  go_wp2_with fail
  refine I1.out.mono ?_
  rintro e W7 ⟨rfl, hb7⟩
  have HB7 := hide (HB6.out.trans (hb7.mono HB6.out.size))
  have HO7 := hide (HO6.out.below hb7)
  have I2 := hide (ints_lit W7 B2 b2 [1, 2] (rd_on R2.out hb7) (by decide))
  clear hb7 I1 HO6 R2
  go_wp2_with fail
  refine I2.out.mono ?_
  rintro e W8 ⟨rfl, hb8⟩
  have HB8 := hide (HB7.out.trans (hb8.mono HB7.out.size))
  have HO8 := hide (HO7.out.below hb8)
  have AH := hide (Ahead_b o D D 2 es exE 0 1 W8 HO8.out HS.out)
  rw [H01.out] at AH
  clear hb8 I2 HO7
  go_wp2_with fail
  refine AH.out.mono ?_
  rintro e W9 ⟨rfl, hb9⟩
  have HB9 := hide (HB8.out.trans (hb9.mono HB8.out.size))
  have HO9 := hide (HO8.out.below hb9)
  have AH2 := hide (Ahead_b o D D 2 es exE 1 0 W9 HO9.out HS.out)
  rw [H10.out] at AH2
  clear hb9 AH HO8
  go_wp2_with fail
  refine AH2.out.mono ?_
  rintro e Wa ⟨rfl, hba⟩
  have HBa := hide (HB9.out.trans (hba.mono HB9.out.size))
  have HOa := hide (HO9.out.below hba)
  have AH3 := hide (Ahead_b o D D 2 es exE 0 2 Wa HOa.out HS.out)
  rw [H02.out] at AH3
  clear hba AH2 HO9
  go_wp2_with fail
  refine AH3.out.mono ?_
  rintro e Wb ⟨rfl, hbb⟩
  have HBb := hide (HBa.out.trans (hbb.mono HBa.out.size))
  have HOb := hide (HOa.out.below hbb)
  have AH4 := hide (Ahead_b o D D 2 es exE 1 2 Wb HOb.out HS.out)
  rw [H12.out] at AH4
  clear hbb AH3 HOa
  go_wp2_with fail
  refine AH4.out.mono ?_
  rintro e Wc ⟨rfl, hbc⟩
  have HBc := hide (HBb.out.trans (hbc.mono HBb.out.size))
  have HOc := hide (HOb.out.below hbc)
  have hla := (Below.refl Wc.heap.size Wc).alloc (Nat.le_refl _) (.cells (ints [1]).toArray 3)
  have FC := hide (First_c o D 3 1 es (some ⟨Wc.heap.size, 0, none⟩) [1] (Wc.alloc (.cells (ints [1]).toArray 3)) (HOc.out.below hla) L3.out (by omega) HAL.out HAH.out (rd_lit Wc [1]) (by decide))
  rw [HFI.out] at FC
  have HLA := hide hla
  clear hbc hla AH4 HOb
  go_wp2_with fail
  refine FC.out.mono ?_
  rintro e Wd ⟨v3, rfl, hw3, hbd0⟩
  obtain ⟨B3, b3, rfl, hr3⟩ := own_rd0 hw3 rfl
  have hbd := HLA.out.trans (hbd0.mono HLA.out.size)
  have HBd := hide (HBc.out.trans (hbd.mono HBc.out.size))
  have HOd := hide (HOc.out.below hbd)
  have I3 := hide (ints_lit Wd B3 b3 [1, 0, 2] hr3 (by decide))
  clear hbd hbd0 hw3 hr3 FC HOc HLA
  go_wp2_with fail
  refine I3.out.mono ?_
  rintro e We ⟨rfl, hbe⟩
  have HBe := hide (HBd.out.trans (hbe.mono HBd.out.size))
  have HOe := hide (HOd.out.below hbe)
  have PC := hide (Past_c o D D 2 es exE 2 We HOe.out HS.out (by rw [L3.out]; omega))
  rw [HPA.out] at PC
  clear hbe I3 HOd
  go_wp2_with fail
  refine PC.out.mono ?_
  rintro e Wf ⟨v4, rfl, hw4, hbf⟩
  obtain ⟨B4, b4, rfl, hr4⟩ := own_rd0 hw4 rfl
  have HBf := hide (HBe.out.trans (hbf.mono HBe.out.size))
  have HOf := hide (HOe.out.below hbf)
  have I4 := hide (ints_lit Wf B4 b4 [0, 1] hr4 (by decide))
  clear hbf hw4 hr4 PC HOe
  go_wp2_with fail
  refine I4.out.mono ?_
  rintro e Wg ⟨rfl, hbg⟩
  have HBg := hide (HBf.out.trans (hbg.mono HBf.out.size))
  have HOg := hide (HOf.out.below hbg)
  have hlg := (Below.refl Wg.heap.size Wg).alloc (Nat.le_refl _) (.cells (ints [0, 2, 1]).toArray 3)
  have IC := hide (Is_c o D 2 3 0 3 exE es (some ⟨Wg.heap.size, 0, none⟩) [0, 2, 1] (Wg.alloc (.cells (ints [0, 2, 1]).toArray 3)) (HOg.out.below hlg) L3.out (by omega) (by rw [← L3.out]; exact HAL.out) (by rw [← L3.out]; exact fun i hi => Nat.le_trans (HAH.out i hi) (by omega)) (rd_lit Wg [0, 2, 1]) (by decide))
  rw [HIS.out, Bool.and_false] at IC
  have HLG := hide hlg
  clear hbg hlg I4 HOf
  go_wp2_with fail
  refine IC.out.mono ?_
  rintro e Wh ⟨rfl, hbh⟩
  have HBh := hide (HBg.out.trans ((HLG.out.trans (hbh.mono HLG.out.size)).mono HBg.out.size))
  clear hbh
  go_wp2_with fail
  go_ret
  exact ⟨rfl, HBh.out⟩
end Ord
end Go.Proofs.Ytflaikhkddjfjaa
