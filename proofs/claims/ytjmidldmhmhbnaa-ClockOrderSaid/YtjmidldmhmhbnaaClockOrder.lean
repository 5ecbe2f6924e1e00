/- The walk of the statement ClockOrder: of any three clocks; without conditions. -/
import Derived.Test.YtjmidldmhmhbnaaClockK
namespace Go.Proofs.Ytjmidldmhmhbnaa.ClockOrderW
open Go.RowKit Go.Proofs.Ytjmidldmhmhbnaa
set_option linter.unusedVariables false
set_option linter.unusedSimpArgs false

theorem lawOf_self {l : List Int} (h : mayB l = true) : lawOf l l = 0 := by
  have h2 : may2B l l = true := by simp [may2B, h]
  rw [lawOf_yes h2, ofU_w h2, wB_refl]; rfl

set_option maxRecDepth 100000 in
set_option maxHeartbeats 4000000 in
theorem walk (W : World) (a0 : Option Addr) (len0 cap0 : Nat) (z0 : List Int) (w0 : IsRow .i64 W a0 len0 cap0 z0) (a1 : Option Addr) (len1 cap1 : Nat) (z1 : List Int) (w1 : IsRow .i64 W a1 len1 cap1 z1) (a2 : Option Addr) (len2 cap2 : Nat) (z2 : List Int) (w2 : IsRow .i64 W a2 len2 cap2 z2) :
    Calls Try.prog 6 #[.slice a0 len0 cap0, .slice a1 len1 cap1, .slice a2 len2 cap2] W fun e w' => e = .returned (.bool true) ∧ Below W.heap.size W w' := by
  obtain ⟨hrd, hlen, hmax, _⟩ := rd_isRow w0
  generalize z0.take len0 = l at hrd hlen
  subst hlen
  obtain ⟨hrd', hlen, hmax', _⟩ := rd_isRow w1
  generalize z1.take len1 = m at hrd' hlen
  subst hlen
  obtain ⟨hrd2, hlen, hmax2, _⟩ := rd_isRow w2
  generalize z2.take len2 = e at hrd2 hlen
  subst hlen
  clear w0 w1 w2
  have hl63 := hmax
  have hm63 := hmax'
  have he63 := hmax2
  unfold maxLen at hl63 hm63 he63
  go_enter Try.func6, Try.ntmps6
  go_wp2_with fail
  refine (awake_a _).mono ?_
  rintro e_ W1 ⟨rfl, hb1⟩
  have R1 := hide (rd_on hrd hb1)
  have S1 := hide (rd_on hrd' hb1)
  have T1 := hide (rd_on hrd2 hb1)
  have HB1 := hide hb1
  clear hrd hrd' hrd2 hb1
  go_wp2_with fail
  refine (may3_a _ _ _ _ _ _ _ _ _ _ _ _ _ R1.out S1.out T1.out hmax hmax' hmax2).mono ?_
  by_cases hmay : may3B l m e = true
  · rw [hmay]
    have hcs := order_cases hmay
    have hself := lawOf_self (may3B_yes hmay).2.2.1
    clear hmay
    rintro e_ w' ⟨rfl, rfl⟩
    go_wp2_with fail
    refine (lawOf_a _ _ _ _ _ _ _ R1.out S1.out hmax hmax').mono ?_
    rintro e_ W2 ⟨rfl, hb2⟩
    have R2 := hide (rd_on R1.out hb2)
    have S2 := hide (rd_on S1.out hb2)
    have T2 := hide (rd_on T1.out hb2)
    have HB2 := hide (HB1.out.trans (hb2.mono HB1.out.size))
    clear hb2 R1 S1 T1 HB1
    go_wp2_with fail
    refine (lawOf_a _ _ _ _ _ _ _ S2.out T2.out hmax' hmax2).mono ?_
    rintro e_ W3 ⟨rfl, hb3⟩
    have R3 := hide (rd_on R2.out hb3)
    have S3 := hide (rd_on S2.out hb3)
    have T3 := hide (rd_on T2.out hb3)
    have HB3 := hide (HB2.out.trans (hb3.mono HB2.out.size))
    clear hb3 R2 S2 T2 HB2
    go_wp2_with fail
    refine (lawOf_a _ _ _ _ _ _ _ R3.out T3.out hmax hmax2).mono ?_
    rintro e_ W4 ⟨rfl, hb4⟩
    have R4 := hide (rd_on R3.out hb4)
    have S4 := hide (rd_on S3.out hb4)
    have HB4 := hide (HB3.out.trans (hb4.mono HB3.out.size))
    clear hb4 R3 S3 T3 HB3
    generalize hcd : lawOf l m = cd at *
    generalize hdc : lawOf m l = dc at *
    generalize hde : lawOf m e = de at *
    generalize hce : lawOf l e = ce at *
    generalize hsm : sameB l m = sm at *
    have Hdc := hide hdc
    have Hsm := hide hsm
    have Hself := hide hself
    clear hcd hdc hde hce hsm hself
    rcases hcs with ⟨rfl, rfl, rfl, hx⟩ | ⟨rfl, rfl, rfl, hlt, rfl, rfl⟩ | ⟨rfl, rfl, rfl, hlt, hne⟩ | ⟨rfl, rfl, rfl⟩ | ⟨rfl, rfl, rfl⟩
    · subst hx
      have t1 : ((de : Int) == (de : Int)) = true := by simp
      go_wp2_with fail
      refine (lawOf_a _ _ _ _ _ _ _ R4.out R4.out hmax hmax).mono ?_
      rw [Hself.out]
      rintro e_ W5 ⟨rfl, hb5⟩
      have R5 := hide (rd_on R4.out hb5)
      have S5 := hide (rd_on S4.out hb5)
      have HB5 := hide (HB4.out.trans (hb5.mono HB4.out.size))
      clear hb5 R4 S4 HB4
      go_wp2_with fail
      refine (ints_same _ _ _ _ _ _ _ _ _ R5.out S5.out hmax hmax').mono ?_
      rw [Hsm.out]
      rintro e_ w' ⟨rfl, n6, rfl⟩
      go_wp2_with fail
      refine (lawOf_a _ _ _ _ _ _ _ (S5.out.drewN n6) (R5.out.drewN n6) hmax' hmax).mono ?_
      rw [Hdc.out]
      rintro e_ W7 ⟨rfl, hb7⟩
      have hb7' : Below W5.heap.size W5 W7 := (below_drewN (Below.refl _ W5) n6).trans hb7
      have R7 := hide (rd_on R5.out hb7')
      have S7 := hide (rd_on S5.out hb7')
      have HB7 := hide (HB5.out.trans (hb7'.mono HB5.out.size))
      clear hb7 hb7' R5 S5 HB5
      go_wp2_with fail
      refine (lawOf_a _ _ _ _ _ _ _ S7.out R7.out hmax' hmax).mono ?_
      rw [Hdc.out]
      rintro e_ W8 ⟨rfl, hb8⟩
      have R8 := hide (rd_on R7.out hb8)
      have S8 := hide (rd_on S7.out hb8)
      have HB8 := hide (HB7.out.trans (hb8.mono HB7.out.size))
      clear hb8 R7 S7 HB7
      go_wp2
      go_ret
      exact ⟨rfl, HB8.out⟩
    · have hlt' : ¬ sumB m ≤ sumB l := by omega
      go_wp2_with fail
      refine (lawOf_a _ _ _ _ _ _ _ R4.out R4.out hmax hmax).mono ?_
      rw [Hself.out]
      rintro e_ W5 ⟨rfl, hb5⟩
      have R5 := hide (rd_on R4.out hb5)
      have S5 := hide (rd_on S4.out hb5)
      have HB5 := hide (HB4.out.trans (hb5.mono HB4.out.size))
      clear hb5 R4 S4 HB4
      go_wp2_with fail
      refine (ints_same _ _ _ _ _ _ _ _ _ R5.out S5.out hmax hmax').mono ?_
      rw [Hsm.out]
      rintro e_ w' ⟨rfl, n6, rfl⟩
      go_wp2_with fail
      refine (lawOf_a _ _ _ _ _ _ _ (S5.out.drewN n6) (R5.out.drewN n6) hmax' hmax).mono ?_
      rw [Hdc.out]
      rintro e_ W7 ⟨rfl, hb7⟩
      have hb7' : Below W5.heap.size W5 W7 := (below_drewN (Below.refl _ W5) n6).trans hb7
      have R7 := hide (rd_on R5.out hb7')
      have S7 := hide (rd_on S5.out hb7')
      have HB7 := hide (HB5.out.trans (hb7'.mono HB5.out.size))
      clear hb7 hb7' R5 S5 HB5
      go_wp2_with fail
      refine (lawOf_a _ _ _ _ _ _ _ S7.out R7.out hmax' hmax).mono ?_
      rw [Hdc.out]
      rintro e_ W8 ⟨rfl, hb8⟩
      have R8 := hide (rd_on R7.out hb8)
      have S8 := hide (rd_on S7.out hb8)
      have HB8 := hide (HB7.out.trans (hb8.mono HB7.out.size))
      clear hb8 R7 S7 HB7
      go_wp2_with fail
      refine (sum_a _ _ _ _ _ R8.out hmax).mono ?_
      rintro e_ w' ⟨rfl, rfl⟩
      go_wp2_with fail
      refine (sum_a _ _ _ _ _ S8.out hmax').mono ?_
      rintro e_ w' ⟨rfl, rfl⟩
      go_wp2
      go_ret
      exact ⟨rfl, HB8.out⟩
    · have hlt' : ¬ sumB m ≤ sumB l := by omega
      have t1 : ((de : Int) == 1) = false := by rw [beq_eq_false_iff_ne]; omega
      go_wp2_with fail
      refine (lawOf_a _ _ _ _ _ _ _ R4.out R4.out hmax hmax).mono ?_
      rw [Hself.out]
      rintro e_ W5 ⟨rfl, hb5⟩
      have R5 := hide (rd_on R4.out hb5)
      have S5 := hide (rd_on S4.out hb5)
      have HB5 := hide (HB4.out.trans (hb5.mono HB4.out.size))
      clear hb5 R4 S4 HB4
      go_wp2_with fail
      refine (ints_same _ _ _ _ _ _ _ _ _ R5.out S5.out hmax hmax').mono ?_
      rw [Hsm.out]
      rintro e_ w' ⟨rfl, n6, rfl⟩
      go_wp2_with fail
      refine (lawOf_a _ _ _ _ _ _ _ (S5.out.drewN n6) (R5.out.drewN n6) hmax' hmax).mono ?_
      rw [Hdc.out]
      rintro e_ W7 ⟨rfl, hb7⟩
      have hb7' : Below W5.heap.size W5 W7 := (below_drewN (Below.refl _ W5) n6).trans hb7
      have R7 := hide (rd_on R5.out hb7')
      have S7 := hide (rd_on S5.out hb7')
      have HB7 := hide (HB5.out.trans (hb7'.mono HB5.out.size))
      clear hb7 hb7' R5 S5 HB5
      go_wp2_with fail
      refine (lawOf_a _ _ _ _ _ _ _ S7.out R7.out hmax' hmax).mono ?_
      rw [Hdc.out]
      rintro e_ W8 ⟨rfl, hb8⟩
      have R8 := hide (rd_on R7.out hb8)
      have S8 := hide (rd_on S7.out hb8)
      have HB8 := hide (HB7.out.trans (hb8.mono HB7.out.size))
      clear hb8 R7 S7 HB7
      go_wp2_with fail
      refine (sum_a _ _ _ _ _ R8.out hmax).mono ?_
      rintro e_ w' ⟨rfl, rfl⟩
      go_wp2_with fail
      refine (sum_a _ _ _ _ _ S8.out hmax').mono ?_
      rintro e_ w' ⟨rfl, rfl⟩
      go_wp2
      go_ret
      exact ⟨rfl, HB8.out⟩
    · have _t := True.intro
      go_wp2_with fail
      refine (lawOf_a _ _ _ _ _ _ _ R4.out R4.out hmax hmax).mono ?_
      rw [Hself.out]
      rintro e_ W5 ⟨rfl, hb5⟩
      have R5 := hide (rd_on R4.out hb5)
      have S5 := hide (rd_on S4.out hb5)
      have HB5 := hide (HB4.out.trans (hb5.mono HB4.out.size))
      clear hb5 R4 S4 HB4
      go_wp2_with fail
      refine (ints_same _ _ _ _ _ _ _ _ _ R5.out S5.out hmax hmax').mono ?_
      rw [Hsm.out]
      rintro e_ w' ⟨rfl, n6, rfl⟩
      go_wp2_with fail
      refine (lawOf_a _ _ _ _ _ _ _ (S5.out.drewN n6) (R5.out.drewN n6) hmax' hmax).mono ?_
      rw [Hdc.out]
      rintro e_ W7 ⟨rfl, hb7⟩
      have hb7' : Below W5.heap.size W5 W7 := (below_drewN (Below.refl _ W5) n6).trans hb7
      have R7 := hide (rd_on R5.out hb7')
      have S7 := hide (rd_on S5.out hb7')
      have HB7 := hide (HB5.out.trans (hb7'.mono HB5.out.size))
      clear hb7 hb7' R5 S5 HB5
      go_wp2_with fail
      refine (lawOf_a _ _ _ _ _ _ _ S7.out R7.out hmax' hmax).mono ?_
      rw [Hdc.out]
      rintro e_ W8 ⟨rfl, hb8⟩
      have R8 := hide (rd_on R7.out hb8)
      have S8 := hide (rd_on S7.out hb8)
      have HB8 := hide (HB7.out.trans (hb8.mono HB7.out.size))
      clear hb8 R7 S7 HB7
      go_wp2
      go_ret
      exact ⟨rfl, HB8.out⟩
    · have _t := True.intro
      go_wp2_with fail
      refine (lawOf_a _ _ _ _ _ _ _ R4.out R4.out hmax hmax).mono ?_
      rw [Hself.out]
      rintro e_ W5 ⟨rfl, hb5⟩
      have R5 := hide (rd_on R4.out hb5)
      have S5 := hide (rd_on S4.out hb5)
      have HB5 := hide (HB4.out.trans (hb5.mono HB4.out.size))
      clear hb5 R4 S4 HB4
      go_wp2_with fail
      refine (ints_same _ _ _ _ _ _ _ _ _ R5.out S5.out hmax hmax').mono ?_
      rw [Hsm.out]
      rintro e_ w' ⟨rfl, n6, rfl⟩
      go_wp2_with fail
      refine (lawOf_a _ _ _ _ _ _ _ (S5.out.drewN n6) (R5.out.drewN n6) hmax' hmax).mono ?_
      rw [Hdc.out]
      rintro e_ W7 ⟨rfl, hb7⟩
      have hb7' : Below W5.heap.size W5 W7 := (below_drewN (Below.refl _ W5) n6).trans hb7
      have R7 := hide (rd_on R5.out hb7')
      have S7 := hide (rd_on S5.out hb7')
      have HB7 := hide (HB5.out.trans (hb7'.mono HB5.out.size))
      clear hb7 hb7' R5 S5 HB5
      go_wp2_with fail
      refine (lawOf_a _ _ _ _ _ _ _ S7.out R7.out hmax' hmax).mono ?_
      rw [Hdc.out]
      rintro e_ W8 ⟨rfl, hb8⟩
      have R8 := hide (rd_on R7.out hb8)
      have S8 := hide (rd_on S7.out hb8)
      have HB8 := hide (HB7.out.trans (hb8.mono HB7.out.size))
      clear hb8 R7 S7 HB7
      go_wp2
      go_ret
      exact ⟨rfl, HB8.out⟩
  · have hno : may3B l m e = false := by simpa using hmay
    rw [hno]
    clear hmay hno
    rintro e_ w' ⟨rfl, rfl⟩
    go_wp2
    go_ret
    exact ⟨rfl, HB1.out⟩
end Go.Proofs.Ytjmidldmhmhbnaa.ClockOrderW
