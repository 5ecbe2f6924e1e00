/- The walk of the statement ClockMerges: of any two clocks; without conditions. -/
import Derived.Test.YtjmidldmhmhbnaaClockI
namespace Go.Proofs.Ytjmidldmhmhbnaa.ClockMergesW
open Go.RowKit Go.Proofs.Ytjmidldmhmhbnaa
set_option linter.unusedVariables false
set_option linter.unusedSimpArgs false

theorem rd_later {w w' : World} {B D : Nat} {A : Option Addr} {l : List Int} (h : Rd w B A l) (hB : B ≤ D) (hb : Below D w w') : Rd w' D A l := (h.more hB).below hb
theorem ints_eq (A A' : Option Addr) (l : List Int) (cap cap' B B' : Nat) (w : World) (hr : Rd w B A l) (hr' : Rd w B' A' l) (hm : l.length ≤ maxLen) :
    Calls Try.prog 21 #[.slice A l.length cap, .slice A' l.length cap'] w fun e w' => e = .returned (.bool true) ∧ ∃ n, w' = w.drewN n :=
  (ints_same A A' l l cap cap' B B' w hr hr' hm hm).mono fun e w' h => ⟨by rw [h.1]; simp [sameB], h.2⟩
theorem mergeL_len (l m : List Int) (hm : l.length ≤ maxLen) : (mergeL l m).length ≤ maxLen := by
  unfold mergeL
  split
  · rw [mx_length, upto_length]; exact hm
  · simp

set_option maxRecDepth 100000 in
set_option maxHeartbeats 2000000 in
theorem walk (W : World) (a0 : Option Addr) (len0 cap0 : Nat) (z0 : List Int) (w0 : IsRow .i64 W a0 len0 cap0 z0) (a1 : Option Addr) (len1 cap1 : Nat) (z1 : List Int) (w1 : IsRow .i64 W a1 len1 cap1 z1) :
    Calls Try.prog 5 #[.slice a0 len0 cap0, .slice a1 len1 cap1] W fun e w' => e = .returned (.bool true) ∧ Below W.heap.size W w' := by
  obtain ⟨hrd, hlen, hmax, _⟩ := rd_isRow w0
  generalize z0.take len0 = l at hrd hlen
  subst hlen
  obtain ⟨hrd', hlen, hmax', _⟩ := rd_isRow w1
  generalize z1.take len1 = m at hrd' hlen
  subst hlen
  clear w0 w1
  have hl63 := hmax
  have hm63 := hmax'
  unfold maxLen at hl63 hm63
  by_cases h80 : 80 < l.length
  · go_enter Try.func5, Try.ntmps5
    go_wp2
    go_ret
    exact ⟨rfl, Below.refl _ _⟩
  have h80' : l.length ≤ 80 := by omega
  by_cases h81 : 80 < m.length
  · go_enter Try.func5, Try.ntmps5
    go_wp2
    go_ret
    exact ⟨rfl, Below.refl _ _⟩
  have h81' : m.length ≤ 80 := by omega
  have hlm : 0 + l.length ≤ maxLen := by omega
  have hmm : 0 + m.length ≤ maxLen := by omega
  have Hr := hide hrd
  have Hr' := hide hrd'
  obtain ⟨i0, hi0, hz0, hz1, hz2⟩ := info_parts int_info
  clear hrd hrd' h80 h81
  go_enter Try.func5, Try.ntmps5
  go_wp2_with (first
    | (at_builtin
       refine wpList_append_any _ rfl (.tmp 21) (.tmp 22) _ rfl W.heap.size 3 i0 _ 1 8 Try.underlying22 hi0 hz0 hz1 hz2 rfl (by omega) (.slice (some ⟨W.heap.size, 0, none⟩) 0 0) 0 [] rfl (own_empty W) W.heap.size a0 l.length cap0 (ints l) rfl (Hr.out.alloc (Nat.le_refl _) _) (ints_one l) hlm (by omega) (by simp) ?_
       intro v1 W1 hown1 hg1 hat1
       have hb1 : Below W.heap.size W W1 := ((Below.refl _ _).alloc (Nat.le_refl _) _).grown hg1 (by simp) (by simp [Value.ownBlock])
       rw [Nat.zero_add, List.nil_append] at hown1
       obtain ⟨A1, cp1, rfl, ho1⟩ := own_form hown1
       have hs1 := hb1.size
       have H1' : Hid (Rd W1 W1.heap.size a1 m) := hide (Reads.more (rd_later Hr'.out (Nat.le_refl _) hb1) hs1)
       have Ho1 := hide ho1
       clear hown1 hg1 hat1 ho1)
    | (at_builtin
       refine wpList_append_any _ rfl (.tmp 24) (.tmp 25) _ rfl W1.heap.size 3 i0 _ 1 8 Try.underlying22 hi0 hz0 hz1 hz2 rfl (by omega) (.slice (some ⟨W1.heap.size, 0, none⟩) 0 0) 0 [] rfl (own_empty W1) W1.heap.size a1 m.length cap1 (ints m) rfl (H1'.out.alloc (Nat.le_refl _) _) (ints_one m) hmm (by omega) (by simp) ?_
       intro v2 W2 hown2 hg2 hat2
       have hb2 : Below W1.heap.size W1 W2 := ((Below.refl _ _).alloc (Nat.le_refl _) _).grown hg2 (by simp) (by simp [Value.ownBlock])
       rw [Nat.zero_add, List.nil_append] at hown2
       obtain ⟨A2, cp2, rfl, ho2⟩ := own_form hown2
       have Ho2 := hide ho2
       clear hown2 hg2 hat2 ho2))
  have hs2 := hb2.size
  have H2 : Hid (Rd W2 W2.heap.size a0 l) := hide (Reads.more (rd_later (Reads.more (rd_later Hr.out (Nat.le_refl _) hb1) hs1) (Nat.le_refl _) hb2) hs2)
  have H2' : Hid (Rd W2 W2.heap.size a1 m) := hide (Reads.more (rd_later H1'.out (Nat.le_refl _) hb2) hs2)
  have hB2 : Below W.heap.size W W2 := hb1.trans (hb2.mono hs1)
  refine (merge_b _ _ _ _ _ _ _ H2.out H2'.out hmax hmax').mono ?_
  rintro e W3 ⟨A3, cap3, rfl, ho3, hb3⟩
  have Ho3 := hide ho3
  clear ho3
  have hs3 := hb3.size
  have hB3 : Below W.heap.size W W3 := hB2.trans (hb3.mono (by omega))
  have K1 : Hid (Rd W3 W3.heap.size a0 l) := hide (Reads.more (rd_later H2.out (Nat.le_refl _) hb3) hs3)
  have K2 : Hid (Rd W3 W3.heap.size a1 m) := hide (Reads.more (rd_later H2'.out (Nat.le_refl _) hb3) hs3)
  have K3 : Hid (Rd W3 W3.heap.size A1 l) := hide (Reads.more (rd_later (Reads.more (rd_later Ho1.out.reads (Nat.le_refl _) hb2) hs2) (Nat.le_refl _) hb3) hs3)
  have K4 : Hid (Rd W3 W3.heap.size A2 m) := hide (Reads.more (rd_later Ho2.out.reads (Nat.le_refl _) hb3) hs3)
  have K5 : Hid (Rd W3 W3.heap.size A3 (mergeL l m)) := hide Ho3.out.reads
  have htl := mergeL_len l m hmax
  have htl' := htl
  unfold maxLen at htl'
  have ht2 : ((mergeE l m) != (mergeE l m)) = false := by simp
  have HB3 := hide hB3
  clear Ho1 Ho2 Ho3 H1' H2 H2' hB2 hB3 hb1 hb2 hb3 hs1 hs2 hs3 hi0 hz0 hz1 hz2
  generalize hT : mergeL l m = T at *
  generalize hTE : mergeE l m = TE at *
  have HT := hide hT
  have HTE := hide hTE
  clear hT hTE
  go_wp2_with fail
  go_loopw [9] (fun i wr => ∃ k : Nat, k ≤ 2 ∧ i = .int .i64 k ∧ Below W3.heap.size W3 wr) (fun i _ => 2 - (intOf i).toNat)
  case atStart => exact ⟨0, by omega, rfl, Below.refl _ _⟩
  case round =>
    obtain ⟨k, hk, rfl, hbr⟩ := hrel
    have hsr := hbr.size
    obtain ⟨wo, rfl⟩ : ∃ wo : World, wo = wr := ⟨_, rfl⟩
    by_cases hlt : k < 2
    · have L3 : Hid (Rd wo wo.heap.size A1 l) := hide (Reads.more (rd_later K3.out (Nat.le_refl _) hbr) hsr)
      have L4 : Hid (Rd wo wo.heap.size A2 m) := hide (Reads.more (rd_later K4.out (Nat.le_refl _) hbr) hsr)
      go_wp2_with fail
      refine (merge_a _ _ _ _ _ _ _ L3.out L4.out hmax hmax').mono ?_
      rw [HT.out, HTE.out]
      rintro e W5 ⟨A5, cap5, rfl, ho5, hb5⟩
      have Ho5 := hide ho5
      clear ho5
      have hs5 := hb5.size
      have hB5 : Below W3.heap.size W3 W5 := hbr.trans (hb5.mono hsr)
      go_wp2_with fail
      refine (ints_eq _ _ _ _ _ _ _ _ Ho5.out.reads (rd_later K5.out (Nat.le_refl _) hB5) htl).mono ?_
      rintro e W6 ⟨rfl, n6, rfl⟩
      go_wp2_with fail
      refine (ints_eq _ _ _ _ _ _ _ _ ((rd_later K3.out (Nat.le_refl _) hB5).drewN n6) ((rd_later K1.out (Nat.le_refl _) hB5).drewN n6) hmax).mono ?_
      rintro e W7 ⟨rfl, n7, rfl⟩
      go_wp2_with fail
      refine (ints_eq _ _ _ _ _ _ _ _ ((rd_later K4.out (Nat.le_refl _) hB5).drewN _) ((rd_later K2.out (Nat.le_refl _) hB5).drewN _) hmax').mono ?_
      rintro e W8 ⟨rfl, n8, rfl⟩
      go_wp2_with fail
      go_loopw [12] (fun i wr => ∃ j : Nat, j ≤ T.length ∧ i = .int .i64 j ∧ Below W3.heap.size W3 wr ∧ (0 < T.length → ∃ g l', A5 = some ⟨g, 0, none⟩ ∧ l'.length = T.length ∧ OwnRow wr wo.heap.size g cap5 l')) (fun i _ => T.length - (intOf i).toNat)
      case atStart =>
        refine ⟨0, Nat.zero_le _, rfl, below_drewN hB5 _, fun h0 => ?_⟩
        rcases Ho5.out.row with ⟨_, _, h⟩ | ⟨g, h1, h2⟩
        · rw [h] at h0; exact absurd h0 (by simp)
        · exact ⟨g, T, h1, rfl, h2.drewN _⟩
      case round =>
        obtain ⟨j, hj, rfl, hbj, hgj⟩ := hrel
        by_cases hjl : j < T.length
        · obtain ⟨g, l', rfl, hl', hrow⟩ := hgj (by omega)
          have hcj := hrow.cell j (by omega)
          have hfj := hrow.frozen j
          have Hrow := hide hrow
          have Hl' := hide hl'
          clear hgj hrow hl'
          go_wp2
          go_roundw
          case rel =>
            have hge := Hrow.out.ge
            refine ⟨j + 1, by omega, by go_num, hbj.setCell (p := ⟨g, j, none⟩) (show W3.heap.size ≤ g by omega) _, fun _ => ⟨g, l'.set j (-9), rfl, by rw [List.length_set]; exact Hl'.out, Hrow.out.set_ j (-9)⟩⟩
          case measure => simp [intOf]; omega
        · have hge : T.length ≤ j := by omega
          clear hgj
          go_wp2
          go_roundw
          case rel => exact ⟨k + 1, by omega, by go_num, hbj⟩
          case measure => simp [intOf]; omega
    · have hge : 2 ≤ k := by omega
      go_wp2
      go_ret
      exact ⟨rfl, HB3.out.trans (hbr.mono HB3.out.size)⟩
end Go.Proofs.Ytjmidldmhmhbnaa.ClockMergesW
