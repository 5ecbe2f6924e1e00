/- The walk of the statement ClockTicked: of any clock and any two ranks; without conditions. -/
import Derived.Test.YtjmidldmhmhbnaaClockM
namespace Go.Proofs.Ytjmidldmhmhbnaa.ClockTickedW
open Go.RowKit Go.Proofs.Ytjmidldmhmhbnaa
set_option linter.unusedVariables false
set_option linter.unusedSimpArgs false

theorem rem_in (a : Int) (n : Nat) (h1 : 1 ≤ n) (h2 : n ≤ 64) : ∃ p : Nat, p < n ∧ wrap64 ((IntKind.u64.wrap a).tmod n) = (p : Int) := by
  rw [IntKind.wrap_u64]
  generalize hx : a % 18446744073709551616 = x
  have hx0 : 0 ≤ x := by omega
  rw [Int.tmod_eq_emod_of_nonneg hx0]
  have h3 := Int.emod_nonneg x (show (n : Int) ≠ 0 by omega)
  have h4 := Int.emod_lt_of_pos x (show (0 : Int) < n by omega)
  obtain ⟨p, hp⟩ := Int.eq_ofNat_of_zero_le h3
  refine ⟨p, by omega, ?_⟩
  rw [hp]
  unfold wrap64; omega
theorem ints_eq (A A' : Option Addr) (l : List Int) (cap cap' B B' : Nat) (w : World) (hr : Rd w B A l) (hr' : Rd w B' A' l) (hm : l.length ≤ maxLen) :
    Calls Try.prog 21 #[.slice A l.length cap, .slice A' l.length cap'] w fun e w' => e = .returned (.bool true) ∧ ∃ n, w' = w.drewN n :=
  (ints_same A A' l l cap cap' B B' w hr hr' hm hm).mono fun e w' h => ⟨by rw [h.1]; simp [sameB], h.2⟩
set_option maxRecDepth 100000 in
set_option maxHeartbeats 4000000 in
theorem walk (W : World) (a0 : Option Addr) (len0 cap0 : Nat) (z0 : List Int) (w0 : IsRow .i64 W a0 len0 cap0 z0) (a1 : Int) (w1 : (Lit.int .i64 a1).wf = true) (a2 : Int) (w2 : (Lit.int .i64 a2).wf = true) :
    Calls Try.prog 8 #[.slice a0 len0 cap0, .int .i64 a1, .int .i64 a2] W fun e w' => e = .returned (.bool true) ∧ Below W.heap.size W w' := by
  obtain ⟨hrd, hlen, hmax, _⟩ := rd_isRow w0
  generalize z0.take len0 = l at hrd hlen
  subst hlen
  clear w0
  have hl63 := hmax
  unfold maxLen at hl63
  go_enter Try.func8, Try.ntmps8
  go_wp2_with fail
  refine (awake_a _).mono ?_
  rintro e_ W1 ⟨rfl, hb1⟩
  have R1 := hide (rd_on hrd hb1)
  have HB1 := hide hb1
  clear hrd hb1
  go_wp2_with fail
  refine (may_a _ _ _ _ _ R1.out hmax).mono ?_
  by_cases hmay : mayB l = true
  · rw [hmay]
    have Hmay := hide hmay
    obtain ⟨hl1, hl2⟩ := mayB_len hmay
    clear hmay
    rintro e_ w' ⟨rfl, rfl⟩
    go_wp2
    go_loop [7] (fun i => ∃ k : Nat, k ≤ l.length ∧ i = .int .i64 k ∧ ∀ j < k, l.getD j 0 ≤ 549755813888) (fun i => l.length - (intOf i).toNat)
    case atStart => exact ⟨0, Nat.zero_le _, rfl, fun j hj => by omega⟩
    case round =>
      obtain ⟨k, hk, rfl, hok⟩ := hrel
      have Hok := hide hok
      clear hok
      by_cases hlt : k < l.length
      · obtain ⟨ad, rfl, hb, hc⟩ := rd_at R1.out hlt
        generalize hx : l.getD k 0 = x at hc
        have Hx := hide hx
        clear hx
        by_cases hxs : 549755813888 < x
        · go_wp2
          go_ret
          exact ⟨rfl, HB1.out⟩
        · have hxs' : x ≤ 549755813888 := by omega
          go_wp2
          go_round
          case rel =>
            refine ⟨k + 1, by omega, by go_num, fun j hj => ?_⟩
            by_cases hjk : j = k
            · subst hjk; rw [Hx.out]; exact hxs'
            · exact Hok.out j (by omega)
          case measure => simp [intOf]; omega
      · have hge : l.length ≤ k := by omega
        clear hk
        go_wp2
        go_quiet (fail)
        go_wp2_with fail
        obtain ⟨p, hp, ep⟩ := rem_in a1 l.length hl1 hl2
        obtain ⟨q, hq, eq⟩ := rem_in a2 l.length hl1 hl2
        rw [ep, eq]
        have hs : ∀ j < l.length, l.getD j 0 ≤ 549755813888 := fun j hj => Hok.out j (by omega)
        have sp := hs p hp
        have sq := hs q hq
        obtain ⟨ea, la, _, ma⟩ := ticks p Hmay.out hp (by omega)
        obtain ⟨eb, lb, _, mb⟩ := ticks q Hmay.out hq (by omega)
        obtain ⟨e1, e2, e3, e4, e5, e6, l1, l2⟩ := tick_twice p q Hmay.out hp hq hs
        obtain ⟨e7, e8⟩ := tick_late p Hmay.out hp (by omega)
        have e9 := tick_ahead p Hmay.out hp (by omega)
        have e10 := tick_sum p Hmay.out hp (by omega)
        have hsb := sum_bound Hmay.out l.length (Nat.le_refl _)
        rw [List.take_length] at hsb
        have hsum : sumB l = isum l := by simp [sumB, Hmay.out]
        have hs0 : 0 ≤ sumB l := by omega
        have hs1 : sumB l ≤ 1099511627776 * 64 := by omega
        clear hsb hsum
        have la' : (tickL l p).length ≤ maxLen := by rw [la]; exact hmax
        have lb' : (tickL l q).length ≤ maxLen := by rw [lb]; exact hmax
        have l1' : (tickL (tickL l p) q).length ≤ maxLen := by rw [l1]; exact hmax
        have Ea := hide ea
        have Eb := hide eb
        have E1 := hide e1
        have E2 := hide e2
        have E3 := hide e3
        have E4 := hide e4
        have E5 := hide e5
        have E6 := hide e6
        have E7 := hide e7
        have E8 := hide e8
        have E9 := hide e9
        have E10 := hide e10
        clear ea eb e1 e2 e3 e4 e5 e6 e7 e8 e9 e10 la lb l1 l2 ma mb ep eq hs
        refine (tick_a _ _ _ _ _ (R1.out.drewN _) hmax).mono ?_
        rw [Ea.out]
        rintro e_ W2 ⟨A2, c2, rfl, ho2, hb2⟩
        have hb2' : Below W1.heap.size W1 W2 := (below_drewN (Below.refl _ W1) _).trans hb2
        have R2 := hide (rd_on R1.out hb2')
        have X2 := hide ho2.reads
        have HB2 := hide (HB1.out.trans (hb2'.mono HB1.out.size))
        clear hb2 hb2' R1 HB1 ho2
        go_wp2_with fail
        refine (tick_a _ _ _ _ _ R2.out hmax).mono ?_
        rw [Eb.out]
        rintro e_ W3 ⟨A3, c3, rfl, ho3, hb3⟩
        have R3 := hide (rd_on R2.out hb3)
        have X3 := hide (rd_on X2.out hb3)
        have Y3 := hide ho3.reads
        have HB3 := hide (HB2.out.trans (hb3.mono HB2.out.size))
        clear hb3 R2 X2 HB2 ho3
        go_wp2_with fail
        refine (tick_a _ _ _ _ _ X3.out la').mono ?_
        rw [E1.out]
        rintro e_ W4 ⟨A4, c4, rfl, ho4, hb4⟩
        have R4 := hide (rd_on R3.out hb4)
        have X4 := hide (rd_on X3.out hb4)
        have Y4 := hide (rd_on Y3.out hb4)
        have Z4 := hide ho4.reads
        have HB4 := hide (HB3.out.trans (hb4.mono HB3.out.size))
        clear hb4 R3 X3 Y3 HB3 ho4
        go_wp2_with fail
        refine (tick_a _ _ _ _ _ Y4.out lb').mono ?_
        rw [E2.out, E3.out]
        rintro e_ W5 ⟨A5, c5, rfl, ho5, hb5⟩
        have R5 := hide (rd_on R4.out hb5)
        have X5 := hide (rd_on X4.out hb5)
        have Z5 := hide (rd_on Z4.out hb5)
        have V5 := hide ho5.reads
        have HB5 := hide (HB4.out.trans (hb5.mono HB4.out.size))
        clear hb5 R4 X4 Y4 Z4 HB4 ho5
        go_wp2_with fail
        refine (late_a _ _ _ _ _ _ _ _ _ _ R5.out X5.out hmax la').mono ?_
        rw [E7.out, E8.out]
        rintro e_ w' ⟨rfl, n1, rfl⟩
        go_wp2_with fail
        refine (late_a _ _ _ _ _ _ _ _ _ _ (Z5.out.drewN _) (X5.out.drewN _) l1' la').mono ?_
        rw [E5.out, E6.out]
        rintro e_ w' ⟨rfl, n2, rfl⟩
        go_wp2_with fail
        refine (ints_eq _ _ _ _ _ _ _ _ (Z5.out.drewN _) (V5.out.drewN _) l1').mono ?_
        rintro e_ W6 ⟨rfl, n3, hw⟩
        have hb6 : Below W5.heap.size W5 W6 := by rw [hw]; exact below_drewN (below_drewN (Below.refl _ _) _) _
        have R6 := hide (rd_on R5.out hb6)
        have X6 := hide (rd_on X5.out hb6)
        have Z6 := hide (rd_on Z5.out hb6)
        have HB6 := hide (HB5.out.trans (hb6.mono HB5.out.size))
        clear hb6 hw R5 X5 Z5 V5 HB5
        go_wp2_with fail
        refine (lawOf_a _ _ _ _ _ _ _ R6.out X6.out hmax la').mono ?_
        rw [E9.out]
        rintro e_ W7 ⟨rfl, hb7⟩
        have R7 := hide (rd_on R6.out hb7)
        have X7 := hide (rd_on X6.out hb7)
        have Z7 := hide (rd_on Z6.out hb7)
        have HB7 := hide (HB6.out.trans (hb7.mono HB6.out.size))
        clear hb7 R6 X6 Z6 HB6
        go_wp2_with fail
        refine (lawOf_a _ _ _ _ _ _ _ X7.out Z7.out la' l1').mono ?_
        rw [E4.out]
        rintro e_ W8 ⟨rfl, hb8⟩
        have R8 := hide (rd_on R7.out hb8)
        have X8 := hide (rd_on X7.out hb8)
        have HB8 := hide (HB7.out.trans (hb8.mono HB7.out.size))
        clear hb8 R7 X7 Z7 HB7
        go_wp2_with fail
        refine (sum_a _ _ _ _ _ X8.out la').mono ?_
        rw [E10.out]
        rintro e_ w' ⟨rfl, rfl⟩
        go_wp2_with fail
        refine (sum_a _ _ _ _ _ R8.out hmax).mono ?_
        rintro e_ w' ⟨rfl, rfl⟩
        generalize sumB l = S at *
        go_wp2
        go_ret
        exact ⟨by simp, HB8.out⟩
  · have hno : mayB l = false := by simpa using hmay
    rw [hno]
    clear hmay hno
    rintro e_ w' ⟨rfl, rfl⟩
    go_wp2
    go_ret
    exact ⟨rfl, HB1.out⟩
end Go.Proofs.Ytjmidldmhmhbnaa.ClockTickedW
