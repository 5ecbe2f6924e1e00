/- OrderRows. -/
import Derived.Test.YtflaikhkddjfjaaRows
import Derived.Test.YtflaikhkddjfjaaOrdAe
import Derived.Test.YtflaikhkddjfjaaOrdZ
import Derived.Test.YtflaikhkddjfjaaOrdCp
import Derived.LoopN
namespace Go.Proofs.Ytflaikhkddjfjaa.OrderRowsW
open Go Go.RowKit Go.Proofs.Ytflaikhkddjfjaa Go.Proofs.Ytflaikhkddjfjaa.Ord
set_option linter.unusedVariables false
set_option linter.unusedSimpArgs false
set_option maxRecDepth 100000 in
set_option maxHeartbeats 8000000 in
theorem walk {H : Type} {enc : TypeId × Value → H} {base : Nat} (W : World) (a0 : Int) (w0 : (Lit.int .i64 a0).wf = true) (v1 : Value) (d1 : DataW H) (p1 : List MemPlace) (o1 : Value.okWide Try.prog W .any base 22 v1) (r1 : DataW.Trod enc Try.prog W 0 (fun _ => true) true 22 v1 d1 p1) (a2 : Option Addr) (len2 cap2 : Nat) (z2 : List Int) (w2 : IsRow .i64 W a2 len2 cap2 z2) :
    Calls Try.prog 5 #[.int .i64 a0, v1, .slice a2 len2 cap2] W fun e w' => e = .returned (.bool true) ∧ Below W.heap.size W w' := by
  obtain ⟨A, len, cap, F, rfl, hlen, hev⟩ := evs_of o1 r1
  obtain ⟨hrd, hlw, hmax, _⟩ := rd_isRow w2
  generalize z2.take len2 = l at hrd hlw
  subst hlw
  have GR := hide (Great_a A len cap F W hlen hev)
  have BG := hide (fun (w' : World) (hb : Below W.heap.size W w') (hs : Small F len) => beginG_c a0 A len cap F w' hlen (hev.below hb) hs)
  have RD := hide hrd
  clear o1 r1 hev w0 w2 hrd
  go_enter Try.func5, Try.ntmps5
  go_wp2_with fail
  refine GR.out.mono ?_
  rintro e W1 ⟨rfl | ⟨rfl, hs⟩, hb1⟩
  · have HB1 := hide hb1
    clear hb1
    go_wp2_with fail
    go_ret
    exact ⟨rfl, HB1.out⟩
  by_cases hl200 : 200 < l.length
  · have hl2I : (200 : Int) < (l.length : Int) := by omega
    have HB1 := hide hb1
    clear hb1 hs
    go_wp2_with fail
    go_ret
    exact ⟨rfl, HB1.out⟩
  have hl2I : ¬ (200 : Int) < (l.length : Int) := by omega
  have HB1 := hide hb1
  have BG1 := hide (BG.out W1 hb1 hs)
  have SM := hide hs
  clear hs hb1
  go_wp2_with fail
  refine BG1.out.mono ?_
  rintro e W2 ⟨rfl | ⟨o, o', es, gs, rfl, ⟨hbo, hgr⟩, hle⟩, hb2⟩
  · have HB2 := hide (HB1.out.trans (hb2.mono HB1.out.size))
    clear hb2
    go_wp2_with fail
    go_ret
    exact ⟨rfl, HB2.out⟩
  have HB2 := hide (HB1.out.trans (hb2.mono HB1.out.size))
  obtain ⟨n, hn⟩ : ∃ x, a0.toNat = x := ⟨_, rfl⟩
  rw [hn] at hbo hgr
  have BO := hide hbo
  have HEL := hide hbo.el
  have HGL := hide hbo.gl
  have HI := hide (grow_hist hgr).1
  have HAL := hide HI.out.lt
  have HAH := hide (show ∀ i, i < es.length → (es.getD i default).ah.length ≤ 30 from fun i hi => by
    rw [(grow_hist hgr).2 i hi]
    have h1 := aheadL_len n (evN F) i
    have h2 : (evN F i).af.length = (F i).af.length := by simp [evN]
    rcases SM.out with h | h
    · have := h.2 i (by have := HEL.out; omega); omega
    · omega)
  clear hb2 hbo hgr hn
  have R2 := hide (rd_on RD.out HB2.out)
  obtain ⟨A3, c3, W3, hrun3, hown3, hb3⟩ := copy_int W2 a2 cap2 l.length l rfl R2.out (by omega)
  have HB3 := hide hb3
  have M3 := hide (own_rd hown3 rfl)
  have R3 := hide (rd_on R2.out hb3)
  have I1 := hide (Is_c o W1.heap.size n len 0 c3 (evN F) es A3 l W3 (BO.out.below hb3).a HEL.out hle (by rw [← HEL.out]; exact HAL.out) (by rw [← HEL.out]; exact fun i hi => Nat.le_trans (HAH.out i hi) (by omega)) M3.out hmax)
  clear hb3 hown3 R2
  go_wp2_with (at_builtin; refine Lib.wpList_append_run _ rfl (.tmp 32) (.tmp 33) _ _ rfl _ _ rfl rfl _ W3 hrun3 ?_)
  refine I1.out.mono ?_
  rintro e W4 ⟨rfl, hb4⟩
  clear hrun3 I1
  have HB4 := hide (HB3.out.trans (hb4.mono HB3.out.size))
  have M4 := hide (rd_on M3.out hb4)
  have R4 := hide (rd_on R3.out hb4)
  have I2 := hide (Is_r n o' W1.heap.size len cap2 (evN F) gs a2 l W4 (BO.out.below HB4.out).b HGL.out R4.out hle (by omega))
  clear hb4 M3 R3
  go_wp2_with fail
  refine I2.out.mono ?_
  rintro e W5 ⟨⟨b, rfl, hb⟩, hb5⟩
  have EQ := hide (show (decide (l.length = len) && isF es l (fun _ => false)) = b by
    by_cases h1 : l.length = len
    · rw [decide_eq_true h1, Bool.true_and]
      have h2 := is_same HI.out (l := l) (by rw [HEL.out]; exact h1)
      rw [HEL.out] at h2
      cases hc : isF es l (fun _ => false) with
      | true => exact (hb.2 ⟨h1, h2.1 hc⟩).symm
      | false =>
        cases b with
        | false => rfl
        | true =>
          have := h2.2 (hb.1 rfl).2
          rw [hc] at this
          cases this
    · rw [decide_eq_false h1, Bool.false_and]
      cases b with
      | false => rfl
      | true => exact absurd (hb.1 rfl).1 h1)
  rw [EQ.out]
  have HB5 := hide (HB4.out.trans (hb5.mono HB4.out.size))
  have M5 := hide (rd_on M4.out hb5)
  have R5 := hide (rd_on R4.out hb5)
  have F1 := hide (First_c o W1.heap.size len c3 es A3 l W5 (BO.out.below HB5.out).a HEL.out hle HAL.out HAH.out M5.out (by omega))
  have hbb : (b == b) = true := by simp
  clear hb5 hb I2 M4 R4 EQ
  go_wp2_with fail
  refine F1.out.mono ?_
  rintro e W6 ⟨v6, rfl, hw6, hb6⟩
  have HB6 := hide (HB5.out.trans (hb6.mono HB5.out.size))
  have FLN := hide (show (natI (firstL es l)).length = len by rw [natI_len]; unfold firstL; rw [firstN_len]; exact HEL.out)
  obtain ⟨A6, c6, rfl, hr6⟩ := own_rd0 hw6 FLN.out
  have R6 := hide (rd_on R5.out hb6)
  have M6 := hide (rd_on M5.out hb6)
  have Q6 := hide hr6
  have F2 := hide (First_r n o' W1.heap.size len cap2 (evN F) gs a2 l W6 (fun k => (firstN (tnF es.length l l.length) es k).1) (BO.out.below HB6.out).b HGL.out R6.out hle (by omega) rfl (fun k hk => by
    obtain ⟨m, h1, h2, h3, h4⟩ := first_next (tnF es.length l l.length) HAL.out (k := k) (by rw [HEL.out]; exact hk)
    have W9 := first_wt (tnF es.length l l.length) HAL.out k (by rw [HEL.out]; omega)
    have h5 := nxt_same HI.out W9 l (W9.some HAL.out (by rw [firstN_len, HEL.out]; exact hk))
    rw [h3] at h5
    rw [HEL.out] at h2 h5
    exact ⟨m, h2, by rw [HEL.out]; exact h5, by rw [h4]⟩) (fun k => firstN_len _ _ k))
  clear hb6 hw6 hr6 F1 R5 M5
  go_wp2_with fail
  refine F2.out.mono ?_
  rintro e W7 ⟨v7, rfl, hw7, hb7⟩
  have HB7 := hide (HB6.out.trans (hb7.mono HB6.out.size))
  have hw7' : W7.ownsRow W6.heap.size 3 1 v7 len (ints (natI (firstL es l))) := by
    unfold firstL
    rw [← HEL.out] at hw7 ⊢
    exact hw7
  obtain ⟨A7, c7, rfl, hr7⟩ := own_rd0 hw7' FLN.out
  have R7 := hide (rd_on R6.out hb7)
  have M7 := hide (rd_on M6.out hb7)
  obtain ⟨m, hm⟩ : ∃ x, natI (firstL es l) = x := ⟨_, rfl⟩
  have q6 := rd_on Q6.out hb7
  have hml := FLN.out
  rw [hm] at q6 hr7 hml
  have I3 := hide (ints_same A6 A7 m m c6 c7 _ _ W7 q6 hr7 (by unfold maxLen; omega) (by unfold maxLen; omega))
  rw [show sameB m m = true from decide_eq_true rfl, hml] at I3
  clear hb7 hw7 hw7' hr7 q6 hm hml F2 R6 M6 Q6
  go_wp2_with fail
  refine I3.out.mono ?_
  rintro e W8 ⟨rfl, n8, rfl⟩
  have HB8 := hide (below_drewN HB7.out n8)
  have I4 := hide (ints_same A3 a2 l l c3 cap2 _ _ (W7.drewN n8) (rd_on M7.out (below_drewN (Below.refl _ _) n8)) (rd_on R7.out (below_drewN (Below.refl _ _) n8)) hmax hmax)
  rw [show sameB l l = true from decide_eq_true rfl] at I4
  clear I3 M7 R7
  go_wp2_with fail
  refine I4.out.mono ?_
  rintro e W9 ⟨rfl, n9, rfl⟩
  have HB9 := hide (HB2.out.trans ((below_drewN HB8.out n9).mono HB2.out.size))
  rw [World.drewN_drewN] at HB9
  go_wp2_with fail
  go_ret
  exact ⟨rfl, HB9.out⟩
end Go.Proofs.Ytflaikhkddjfjaa.OrderRowsW
