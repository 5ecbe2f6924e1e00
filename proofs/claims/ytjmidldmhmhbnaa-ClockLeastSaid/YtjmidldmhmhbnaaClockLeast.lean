/- The walk of the statement ClockLeast: of any three clocks; without conditions. -/
import Derived.Test.YtjmidldmhmhbnaaClockL
namespace Go.Proofs.Ytjmidldmhmhbnaa.ClockLeastW
open Go.RowKit Go.Proofs.Ytjmidldmhmhbnaa
set_option linter.unusedVariables false
set_option linter.unusedSimpArgs false

theorem ints_eq (A A' : Option Addr) (l : List Int) (cap cap' B B' : Nat) (w : World) (hr : Rd w B A l) (hr' : Rd w B' A' l) (hm : l.length ≤ maxLen) :
    Calls Try.prog 21 #[.slice A l.length cap, .slice A' l.length cap'] w fun e w' => e = .returned (.bool true) ∧ ∃ n, w' = w.drewN n :=
  (ints_same A A' l l cap cap' B B' w hr hr' hm hm).mono fun e w' h => ⟨by rw [h.1]; simp [sameB], h.2⟩
set_option maxRecDepth 100000 in
set_option maxHeartbeats 4000000 in
theorem walk (W : World) (a0 : Option Addr) (len0 cap0 : Nat) (z0 : List Int) (w0 : IsRow .i64 W a0 len0 cap0 z0) (a1 : Option Addr) (len1 cap1 : Nat) (z1 : List Int) (w1 : IsRow .i64 W a1 len1 cap1 z1) (a2 : Option Addr) (len2 cap2 : Nat) (z2 : List Int) (w2 : IsRow .i64 W a2 len2 cap2 z2) :
    Calls Try.prog 7 #[.slice a0 len0 cap0, .slice a1 len1 cap1, .slice a2 len2 cap2] W fun e w' => e = .returned (.bool true) ∧ Below W.heap.size W w' := by
  obtain ⟨hrd, hlen, hmax, _⟩ := rd_isRow w0
  generalize z0.take len0 = l at hrd hlen
  subst hlen
  obtain ⟨hrd', hlen, hmax', _⟩ := rd_isRow w1
  generalize z1.take len1 = m at hrd' hlen
  subst hlen
  obtain ⟨hrd2, hlen, hmax2, _⟩ := rd_isRow w2
  generalize z2.take len2 = e at hrd2 hlen
  subst hlen
  clear w0 w1 w2
  have hl63 := hmax
  have hm63 := hmax'
  have he63 := hmax2
  unfold maxLen at hl63 hm63 he63
  go_enter Try.func7, Try.ntmps7
  go_wp2_with fail
  refine (awake_a _).mono ?_
  rintro e_ W1 ⟨rfl, hb1⟩
  have R1 := hide (rd_on hrd hb1)
  have S1 := hide (rd_on hrd' hb1)
  have T1 := hide (rd_on hrd2 hb1)
  have HB1 := hide hb1
  clear hrd hrd' hrd2 hb1
  go_wp2_with fail
  refine (may3_a _ _ _ _ _ _ _ _ _ _ _ _ _ R1.out S1.out T1.out hmax hmax' hmax2).mono ?_
  by_cases hmay : may3B l m e = true
  · rw [hmay]
    obtain ⟨h1, h2, ha, hb, hc⟩ := may3B_yes hmay
    have e1 : may2B l m = true := by simp [may2B, h1, ha, hb]
    have e2 : may2B m l = true := by simp [may2B, h1, ha, hb]
    have e3 : may2B m e = true := by simp [may2B, h2, hb, hc]
    have e5 := (merge_may2 e1 hc (by omega)).1
    have e6 := (merge_may2 e3 ha (by omega)).2
    have M1 := hide (merge_yes' e1).2
    have M2 := hide (merge_yes' e2).2
    have M3 := hide (merge_yes' e3).2
    have M5 := hide (merge_yes' e5).2
    have M6 := hide (merge_yes' e6).2
    have Hcomm := hide (merge_comm e1)
    have Hass := hide (merge_assoc hmay)
    have Hab := hide (merge_above e1)
    have Hleast := hide (fun hp hq => merge_least hmay hp hq)
    have n1 : (mergeL l m).length ≤ maxLen := by rw [merge_len e1]; exact hmax
    have n3 : (mergeL m e).length ≤ maxLen := by rw [merge_len e3]; exact hmax'
    have n5 : (mergeL (mergeL l m) e).length ≤ maxLen := by rw [merge_len e5, merge_len e1]; exact hmax
    clear hmay h1 h2 ha hb hc e1 e2 e3 e5 e6
    rintro e_ w' ⟨rfl, rfl⟩
    go_wp2_with fail
    refine (merge_a _ _ _ _ _ _ _ R1.out S1.out hmax hmax').mono ?_
    rw [M1.out]
    rintro e_ W2 ⟨A2, c2, rfl, ho2, hb2⟩
    have R2 := hide (rd_on R1.out hb2)
    have S2 := hide (rd_on S1.out hb2)
    have T2 := hide (rd_on T1.out hb2)
    have U2 := hide ho2.reads
    have HB2 := hide (HB1.out.trans (hb2.mono HB1.out.size))
    clear hb2 R1 S1 T1 HB1 ho2
    go_wp2_with fail
    refine (merge_a _ _ _ _ _ _ _ S2.out R2.out hmax' hmax).mono ?_
    rw [M2.out, Hcomm.out]
    rintro e_ W3 ⟨A3, c3, rfl, ho3, hb3⟩
    have R3 := hide (rd_on R2.out hb3)
    have S3 := hide (rd_on S2.out hb3)
    have T3 := hide (rd_on T2.out hb3)
    have U3 := hide (rd_on U2.out hb3)
    have V3 := hide ho3.reads
    have HB3 := hide (HB2.out.trans (hb3.mono HB2.out.size))
    clear hb3 R2 S2 T2 U2 HB2 ho3
    go_wp2_with fail
    refine (merge_a _ _ _ _ _ _ _ U3.out T3.out n1 hmax2).mono ?_
    rw [M5.out]
    rintro e_ W4 ⟨A4, c4, rfl, ho4, hb4⟩
    have R4 := hide (rd_on R3.out hb4)
    have S4 := hide (rd_on S3.out hb4)
    have T4 := hide (rd_on T3.out hb4)
    have U4 := hide (rd_on U3.out hb4)
    have V4 := hide (rd_on V3.out hb4)
    have X4 := hide ho4.reads
    have HB4 := hide (HB3.out.trans (hb4.mono HB3.out.size))
    clear hb4 R3 S3 T3 U3 V3 HB3 ho4
    go_wp2_with fail
    refine (merge_a _ _ _ _ _ _ _ S4.out T4.out hmax' hmax2).mono ?_
    rw [M3.out]
    rintro e_ W5 ⟨A5, c5, rfl, ho5, hb5⟩
    have R5 := hide (rd_on R4.out hb5)
    have S5 := hide (rd_on S4.out hb5)
    have T5 := hide (rd_on T4.out hb5)
    have U5 := hide (rd_on U4.out hb5)
    have V5 := hide (rd_on V4.out hb5)
    have X5 := hide (rd_on X4.out hb5)
    have Y5 := hide ho5.reads
    have HB5 := hide (HB4.out.trans (hb5.mono HB4.out.size))
    clear hb5 R4 S4 T4 U4 V4 X4 HB4 ho5
    go_wp2_with fail
    refine (merge_a _ _ _ _ _ _ _ R5.out Y5.out hmax n3).mono ?_
    rw [M6.out, ← Hass.out]
    rintro e_ W6 ⟨A6, c6, rfl, ho6, hb6⟩
    have R6 := hide (rd_on R5.out hb6)
    have S6 := hide (rd_on S5.out hb6)
    have T6 := hide (rd_on T5.out hb6)
    have U6 := hide (rd_on U5.out hb6)
    have V6 := hide (rd_on V5.out hb6)
    have X6 := hide (rd_on X5.out hb6)
    have Z6 := hide ho6.reads
    have HB6 := hide (HB5.out.trans (hb6.mono HB5.out.size))
    clear hb6 R5 S5 T5 U5 V5 X5 Y5 HB5 ho6
    go_wp2_with fail
    refine (ints_eq _ _ _ _ _ _ _ _ U6.out V6.out n1).mono ?_
    rintro e_ w' ⟨rfl, k1, rfl⟩
    go_wp2_with fail
    refine (ints_eq _ _ _ _ _ _ _ _ (X6.out.drewN k1) (Z6.out.drewN k1) n5).mono ?_
    rintro e_ W7 ⟨rfl, k2, hw⟩
    have hb7 : Below W6.heap.size W6 W7 := by rw [hw]; exact below_drewN (below_drewN (Below.refl _ _) _) _
    have R7 := hide (rd_on R6.out hb7)
    have S7 := hide (rd_on S6.out hb7)
    have T7 := hide (rd_on T6.out hb7)
    have U7 := hide (rd_on U6.out hb7)
    have HB7 := hide (HB6.out.trans (hb7.mono HB6.out.size))
    clear hb7 hw R6 S6 T6 U6 V6 X6 Z6 HB6
    go_wp2_with fail
    refine (above_a _ _ _ _ _ _ _ R7.out U7.out hmax n1).mono ?_
    rw [Hab.out.1]
    rintro e_ W8 ⟨rfl, hb8⟩
    have R8 := hide (rd_on R7.out hb8)
    have S8 := hide (rd_on S7.out hb8)
    have T8 := hide (rd_on T7.out hb8)
    have U8 := hide (rd_on U7.out hb8)
    have HB8 := hide (HB7.out.trans (hb8.mono HB7.out.size))
    clear hb8 R7 S7 T7 U7 HB7
    go_wp2_with fail
    refine (above_a _ _ _ _ _ _ _ S8.out U8.out hmax' n1).mono ?_
    rw [Hab.out.2]
    rintro e_ W9 ⟨rfl, hb9⟩
    have R9 := hide (rd_on R8.out hb9)
    have S9 := hide (rd_on S8.out hb9)
    have T9 := hide (rd_on T8.out hb9)
    have U9 := hide (rd_on U8.out hb9)
    have HB9 := hide (HB8.out.trans (hb9.mono HB8.out.size))
    clear hb9 R8 S8 T8 U8 HB8
    go_wp2_with fail
    refine (above_a _ _ _ _ _ _ _ R9.out T9.out hmax hmax2).mono ?_
    cases hp : aboveB l e
    · clear hp
      rintro e_ W10 ⟨rfl, hb10⟩
      go_wp2
      go_ret
      exact ⟨rfl, HB9.out.trans (hb10.mono HB9.out.size)⟩
    · have Hp := hide hp
      clear hp
      rintro e_ W10 ⟨rfl, hb10⟩
      have S10 := hide (rd_on S9.out hb10)
      have T10 := hide (rd_on T9.out hb10)
      have U10 := hide (rd_on U9.out hb10)
      have HB10 := hide (HB9.out.trans (hb10.mono HB9.out.size))
      clear hb10 R9 S9 T9 U9 HB9
      go_wp2_with fail
      refine (above_a _ _ _ _ _ _ _ S10.out T10.out hmax' hmax2).mono ?_
      cases hq : aboveB m e
      · clear hq
        rintro e_ W11 ⟨rfl, hb11⟩
        go_wp2
        go_ret
        exact ⟨rfl, HB10.out.trans (hb11.mono HB10.out.size)⟩
      · have Hl := hide (Hleast.out Hp.out hq)
        clear hq
        rintro e_ W11 ⟨rfl, hb11⟩
        have T11 := hide (rd_on T10.out hb11)
        have U11 := hide (rd_on U10.out hb11)
        have HB11 := hide (HB10.out.trans (hb11.mono HB10.out.size))
        clear hb11 S10 T10 U10 HB10
        go_wp2_with fail
        refine (above_a _ _ _ _ _ _ _ U11.out T11.out n1 hmax2).mono ?_
        rw [Hl.out]
        rintro e_ W12 ⟨rfl, hb12⟩
        go_wp2
        go_ret
        exact ⟨rfl, HB11.out.trans (hb12.mono HB11.out.size)⟩
  · have hno : may3B l m e = false := by simpa using hmay
    rw [hno]
    clear hmay hno
    rintro e_ w' ⟨rfl, rfl⟩
    go_wp2
    go_ret
    exact ⟨rfl, HB1.out⟩
end Go.Proofs.Ytjmidldmhmhbnaa.ClockLeastW
