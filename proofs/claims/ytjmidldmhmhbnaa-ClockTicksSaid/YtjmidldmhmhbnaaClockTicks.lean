/- The walk of the statement ClockTicks: of every clock and every rank; without conditions. -/
import Derived.Test.YtjmidldmhmhbnaaClockD
namespace Go.Proofs.Ytjmidldmhmhbnaa.ClockTicksW
open Go.RowKit
set_option linter.unusedVariables false
set_option linter.unusedSimpArgs false

theorem ints_eq (A A' : Option Addr) (l : List Int) (cap cap' B B' : Nat) (w : World) (hr : Rd w B A l) (hr' : Rd w B' A' l) (hm : l.length ≤ maxLen) :
    Calls Try.prog 21 #[.slice A l.length cap, .slice A' l.length cap'] w fun e w' => e = .returned (.bool true) ∧ ∃ n, w' = w.drewN n :=
  (ints_same A A' l l cap cap' B B' w hr hr' hm hm).mono fun e w' h => ⟨by rw [h.1]; simp [sameB], h.2⟩
theorem tickL_len (l : List Int) (r : Int) (hm : l.length ≤ maxLen) : (tickL l r).length ≤ maxLen := by
  unfold tickL
  split
  · simpa using hm
  · simp
theorem newL_len (r : Int) : (newL r).length ≤ maxLen := by
  unfold newL
  split
  · rename_i h
    simp [newOk] at h
    simp [maxLen]; omega
  · simp
theorem rd_later {w w' : World} {B D : Nat} {A : Option Addr} {l : List Int} (h : Rd w B A l) (hB : B ≤ D) (hb : Below D w w') : Rd w' D A l := (h.more hB).below hb

theorem own_form {w : World} {B : Nat} {v : Value} {l : List Int} (h : w.ownsRow B 3 1 v l.length (ints l)) : ∃ A cap, v = .slice A l.length cap ∧ Owned w B A cap l := by
  obtain ⟨h0, ⟨hv, hn⟩ | ⟨g', cap', cur, hv, h1⟩⟩ := h
  · exact ⟨none, 0, by rw [hv, hn], h0, .inl ⟨by rw [hn], hn⟩⟩
  · exact ⟨_, _, hv, h0, .inr ⟨g', cap', cur, rfl, h1⟩⟩
set_option maxRecDepth 100000 in
set_option maxHeartbeats 2000000 in
theorem walk (W : World) (a0 : Option Addr) (len0 cap0 : Nat) (z0 : List Int) (w0 : IsRow .i64 W a0 len0 cap0 z0) (a1 : Int) (w1 : (Lit.int .i64 a1).wf = true) :
    Calls Try.prog 4 #[.slice a0 len0 cap0, .int .i64 a1] W fun e w' => e = .returned (.bool true) ∧ Below W.heap.size W w' := by
  obtain ⟨hrd, hlen, hmax, _⟩ := rd_isRow w0
  generalize z0.take len0 = l at hrd hlen
  subst hlen
  clear w0 w1
  have hmax' := hmax
  unfold maxLen at hmax'
  by_cases h80 : 80 < l.length
  · go_enter Try.func4, Try.ntmps4
    go_wp2
    go_ret
    exact ⟨rfl, Below.refl _ _⟩
  have h80' : l.length ≤ 80 := by omega
  have hlm : 0 + l.length ≤ maxLen := by omega
  have Hrd := hide hrd
  obtain ⟨i0, hi0, hz0, hz1, hz2⟩ := info_parts int_info
  clear hrd h80
  go_enter Try.func4, Try.ntmps4
  go_wp2_with fail
  refine (new_a _ _).mono ?_
  rintro e W1 ⟨An, capn, rfl, hn, hb1⟩
  have Hn := hide hn
  clear hn
  go_wp2_with fail
  refine (new_b _ _).mono ?_
  rintro e W2 ⟨Am, capm, rfl, hm, hb2⟩
  have Hm := hide hm
  clear hm
  have hs1 := hb1.size
  have hs2 := hb2.size
  have hrd2 : Hid (Rd W2 W2.heap.size a0 l) := hide (Reads.more (rd_later (rd_later Hrd.out (Nat.le_refl _) hb1) hs1 hb2) hs2)
  have hB2 : Below W.heap.size W W2 := hb1.trans (hb2.mono hs1)
  go_wp2_with (first
    | (at_builtin
       refine wpList_append_any _ rfl (.tmp 29) (.tmp 30) _ rfl W2.heap.size 3 i0 _ 1 8 Try.underlying22 hi0 hz0 hz1 hz2 rfl (by omega) (.slice (some ⟨W2.heap.size, 0, none⟩) 0 0) 0 [] rfl (own_empty W2) W2.heap.size a0 l.length cap0 (ints l) rfl (hrd2.out.alloc (Nat.le_refl _) _) (ints_one l) hlm (by omega) (by simp) ?_
       intro v1 W3 hown1 hg1 hat1
       have hb3 : Below W2.heap.size W2 W3 := ((Below.refl _ _).alloc (Nat.le_refl _) _).grown hg1 (by simp) (by simp [Value.ownBlock])
       rw [Nat.zero_add, List.nil_append] at hown1
       obtain ⟨A3, cap3, rfl, ho3⟩ := own_form hown1
       clear hown1 hg1 hat1
       have Ho3 := hide ho3
       clear ho3))
  have hs3 := hb3.size
  have hrd3 : Hid (Rd W3 W3.heap.size a0 l) := hide (Reads.more (rd_later hrd2.out (Nat.le_refl _) hb3) hs3)
  have hB3 : Below W.heap.size W W3 := hB2.trans (hb3.mono (by omega))
  refine (tick_b _ _ _ _ _ hrd3.out hmax).mono ?_
  rintro e W4 ⟨A4, cap4, rfl, ho4, hb4⟩
  have Ho4 := hide ho4
  clear ho4
  have hs4 := hb4.size
  have hB4 : Below W.heap.size W W4 := hB3.trans (hb4.mono (by omega))
  -- what stands when the loop begins
  have hn4 : Hid (Rd W4 W4.heap.size An (newL a1)) := hide (Reads.more (rd_later (rd_later (rd_later Hn.out.reads (Nat.le_refl _) hb2) hs2 hb3) hs3 hb4) hs4)
  have hm4 : Hid (Rd W4 W4.heap.size Am (newL a1)) := hide (Reads.more (rd_later (rd_later Hm.out.reads (Nat.le_refl _) hb3) hs3 hb4) hs4)
  have h34 : Hid (Rd W4 W4.heap.size A3 l) := hide (Reads.more (rd_later Ho3.out.reads (Nat.le_refl _) hb4) hs4)
  have hl4 : Hid (Rd W4 W4.heap.size a0 l) := hide (Reads.more (rd_later hrd3.out (Nat.le_refl _) hb4) hs4)
  have h44 : Hid (Rd W4 W4.heap.size A4 (tickL l a1)) := hide Ho4.out.reads
  have htl := tickL_len l a1 hmax
  have hnl := newL_len a1
  have htl' := htl
  unfold maxLen at htl'
  have ht2 : ((tickE l a1) != (tickE l a1)) = false := by simp
  have hn2 : ((newE a1) == (newE a1)) = true := by simp
  have HB4 := hide hB4
  clear Hn Hm Ho3 Ho4 hrd2 hrd3 hB2 hB3 hB4 hb1 hb2 hb3 hb4 hs1 hs2 hs3 hs4 hi0 hz0 hz1 hz2
  generalize hT : tickL l a1 = T at *
  generalize hTE : tickE l a1 = TE at *
  generalize hN : newL a1 = NL at *
  generalize hNE : newE a1 = NE at *
  have HT := hide hT
  have HTE := hide hTE
  clear hT hTE hN hNE
  go_wp2_with fail
  go_loopw [12] (fun i wr => ∃ k : Nat, k ≤ 2 ∧ i = .int .i64 k ∧ Below W4.heap.size W4 wr) (fun i _ => 2 - (intOf i).toNat)
  case atStart => exact ⟨0, by omega, rfl, Below.refl _ _⟩
  case round =>
    obtain ⟨k, hk, rfl, hbr⟩ := hrel
    have hsr := hbr.size
    obtain ⟨wo, rfl⟩ : ∃ wo : World, wo = wr := ⟨_, rfl⟩
    by_cases hlt : k < 2
    · have h3r : Hid (Rd wo wo.heap.size A3 l) := hide (Reads.more (rd_later h34.out (Nat.le_refl _) hbr) hsr)
      go_wp2_with fail
      refine (tick_a _ _ _ _ _ h3r.out hmax).mono ?_
      rw [HT.out, HTE.out]
      rintro e W5 ⟨A5, cap5, rfl, ho5, hb5⟩
      have Ho5 := hide ho5
      clear ho5
      have hs5 := hb5.size
      have hB5 : Below W4.heap.size W4 W5 := hbr.trans (hb5.mono hsr)
      go_wp2_with fail
      refine (ints_eq _ _ _ _ _ _ _ _ Ho5.out.reads (rd_later h44.out (Nat.le_refl _) hB5) htl).mono ?_
      rintro e W6 ⟨rfl, n6, rfl⟩
      go_wp2_with fail
      refine (ints_eq _ _ _ _ _ _ _ _ ((rd_later h34.out (Nat.le_refl _) hB5).drewN n6) ((rd_later hl4.out (Nat.le_refl _) hB5).drewN n6) hmax).mono ?_
      rintro e W7 ⟨rfl, n7, rfl⟩
      go_wp2_with fail
      go_loopw [15] (fun i wr => ∃ j : Nat, j ≤ T.length ∧ i = .int .i64 j ∧ Below W4.heap.size W4 wr ∧ (0 < T.length → ∃ g l', A5 = some ⟨g, 0, none⟩ ∧ l'.length = T.length ∧ OwnRow wr wo.heap.size g cap5 l')) (fun i _ => T.length - (intOf i).toNat)
      case atStart =>
        refine ⟨0, Nat.zero_le _, rfl, below_drewN hB5 _, fun h0 => ?_⟩
        rcases Ho5.out.row with ⟨_, _, h⟩ | ⟨g, h1, h2⟩
        · rw [h] at h0; exact absurd h0 (by simp)
        · exact ⟨g, T, h1, rfl, h2.drewN _⟩
      case round =>
        obtain ⟨j, hj, rfl, hbj, hgj⟩ := hrel
        by_cases hjl : j < T.length
        · obtain ⟨g, l', rfl, hl', hrow⟩ := hgj (by omega)
          have hcj := hrow.cell j (by omega)
          have hfj := hrow.frozen j
          have Hrow := hide hrow
          have Hl' := hide hl'
          clear hgj hrow hl'
          go_wp2
          go_roundw
          case rel =>
            have hge := Hrow.out.ge
            refine ⟨j + 1, by omega, by go_num, hbj.setCell (p := ⟨g, j, none⟩) (show W4.heap.size ≤ g by omega) _, fun _ => ⟨g, l'.set j (-9), rfl, by rw [List.length_set]; exact Hl'.out, Hrow.out.set_ j (-9)⟩⟩
          case measure => simp [intOf]; omega
        · have hge : T.length ≤ j := by omega
          clear hgj
          go_wp2
          go_roundw
          case rel => exact ⟨k + 1, by omega, by go_num, hbj⟩
          case measure => simp [intOf]; omega
    · have hge : 2 ≤ k := by omega
      go_wp2_with fail
      refine (ints_eq _ _ _ _ _ _ _ _ (rd_later hn4.out (Nat.le_refl _) hbr) (rd_later hm4.out (Nat.le_refl _) hbr) hnl).mono ?_
      rintro e W6 ⟨rfl, n6, rfl⟩
      go_wp2
      go_ret
      exact ⟨rfl, HB4.out.trans ((below_drewN hbr n6).mono HB4.out.size)⟩
end Go.Proofs.Ytjmidldmhmhbnaa.ClockTicksW
