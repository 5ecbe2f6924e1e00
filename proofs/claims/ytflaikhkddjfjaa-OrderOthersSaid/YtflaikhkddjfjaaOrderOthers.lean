/- OrderOthers. -/
import Derived.Test.YtflaikhkddjfjaaRows
import Derived.Test.YtflaikhkddjfjaaOrdZ
import Derived.Test.YtflaikhkddjfjaaOrdQ
import Derived.Test.YtflaikhkddjfjaaOrdCp
import Derived.Test.YtflaikhkddjfjaaRel
import Derived.Test.YtflaikhkddjfjaaOrderOrder
import Derived.LoopN
import Derived.BigRegion
namespace Go.Proofs.Ytflaikhkddjfjaa.OrderOthersW
open Go Go.RowKit Go.Proofs.Ytflaikhkddjfjaa Go.Proofs.Ytflaikhkddjfjaa.Ord
set_option linter.unusedVariables false
set_option linter.unusedSimpArgs false
theorem rem_in (a : Int) (n : Nat) (h1 : 1 ≤ n) (h2 : n ≤ 120) : ∃ p : Nat, p < n ∧ wrap64 ((IntKind.u64.wrap a).tmod n) = (p : Int) := by
  rw [IntKind.wrap_u64]
  generalize hx : a % 18446744073709551616 = x
  have hx0 : 0 ≤ x := by omega
  rw [Int.tmod_eq_emod_of_nonneg hx0]
  have h3 := Int.emod_nonneg x (show (n : Int) ≠ 0 by omega)
  have h4 := Int.emod_lt_of_pos x (show (0 : Int) < n by omega)
  obtain ⟨p, hp⟩ := Int.eq_ofNat_of_zero_le h3
  refine ⟨p, by omega, ?_⟩
  rw [hp]
  unfold wrap64; omega
set_option maxRecDepth 100000 in
set_option maxHeartbeats 8000000 in
theorem walk {H : Type} {enc : TypeId × Value → H} {base : Nat} (W : World) (a0 : Int) (w0 : (Lit.int .i64 a0).wf = true) (v1 : Value) (d1 : DataW H) (p1 : List MemPlace) (o1 : Value.okWide Try.prog W .any base 22 v1) (r1 : DataW.Trod enc Try.prog W 0 (fun _ => true) true 22 v1 d1 p1) (a2 : Option Addr) (len2 cap2 : Nat) (z2 : List Int) (w2 : IsRow .i64 W a2 len2 cap2 z2) (a3 : Int) (w3 : (Lit.int .i64 a3).wf = true) :
    Calls Try.prog 8 #[.int .i64 a0, v1, .slice a2 len2 cap2, .int .i64 a3] W fun e w' => e = .returned (.bool true) ∧ Below W.heap.size W w' := by
  obtain ⟨A, len, cap, F, rfl, hlen, hev⟩ := evs_of o1 r1
  obtain ⟨hrd, hlw, hmax, _⟩ := rd_isRow w2
  generalize z2.take len2 = l at hrd hlw
  subst hlw
  have AW := hide (awake_c W)
  have GR := hide (fun (w' : World) (hb : Below W.heap.size W w') => Great_a A len cap F w' hlen (hev.below hb))
  have OC := hide (fun (w' : World) (hb : Below W.heap.size W w') (hs : Small F len) => Of_c a0 A len cap F w' hlen (hev.below hb) hs)
  have RD := hide hrd
  clear o1 r1 hev w0 w2 w3 hrd
  go_enter Try.func8, Try.ntmps8
  go_wp2_with fail
  refine AW.out.mono ?_
  rintro e Wa ⟨rfl, hba⟩
  have HBa := hide hba
  have GR1 := hide (GR.out Wa hba)
  clear hba
  go_wp2_with fail
  refine GR1.out.mono ?_
  rintro e W1 ⟨rfl | ⟨rfl, hs⟩, hb1⟩
  · have HB1 := hide (HBa.out.trans (hb1.mono HBa.out.size))
    clear hb1
    go_wp2_with fail
    go_ret
    exact ⟨rfl, HB1.out⟩
  by_cases hl200 : 200 < l.length
  · have hl2I : (200 : Int) < (l.length : Int) := by omega
    have HB1 := hide (HBa.out.trans (hb1.mono HBa.out.size))
    clear hb1 hs
    go_wp2_with fail
    go_ret
    exact ⟨rfl, HB1.out⟩
  have hl2I : ¬ (200 : Int) < (l.length : Int) := by omega
  have HB1 := hide (HBa.out.trans (hb1.mono HBa.out.size))
  have OC1 := hide (OC.out W1 HB1.out hs)
  have SM := hide hs
  clear hs hb1
  go_wp2_with fail
  refine OC1.out.mono ?_
  rintro e W2 ⟨⟨rfl, _⟩ | ⟨o, es, rfl, hg, _, ho, hgr, hel⟩, hb2⟩
  · have HB2 := hide (HB1.out.trans (hb2.mono HB1.out.size))
    clear hb2
    go_wp2_with fail
    go_ret
    exact ⟨rfl, HB2.out⟩
  have HB2 := hide (HB1.out.trans (hb2.mono HB1.out.size))
  have hle : len ≤ 120 := by
    rcases SM.out with h | h
    · exact h.1
    · have := hg.2.2.1; omega
  obtain ⟨n, hn⟩ : ∃ x, a0.toNat = x := ⟨_, rfl⟩
  have hn1 : 1 ≤ n := by have := hg.1; omega
  have hn64 : n ≤ 64 := by have := hg.2.1; omega
  rw [hn] at hgr
  have TW := hide (⟨hgr.sound hn1 hn64 (by omega), hgr.fit hn1 hn64 (by omega)⟩ : Two n (evN F) es)
  have HI := hide (grow_hist hgr).1
  have HAL := hide HI.out.lt
  have HAH := hide (show ∀ i, i < es.length → (es.getD i default).ah.length ≤ 30 from fun i hi => by
    rw [(grow_hist hgr).2 i hi]
    have h1 := aheadL_len n (evN F) i
    have h2 : (evN F i).af.length = (F i).af.length := by simp [evN]
    rcases SM.out with h | h
    · have := h.2 i (by omega); omega
    · omega)
  have HO := hide ho
  have HEL := hide hel
  have VA := hide (show isF es (natI (List.range len)) (fun _ => false) = true from (isF_iff _ [] _ (fun m => by simp)).2 (by rw [← hel]; exact VF.range HAL.out _ (Nat.le_refl _)))
  have VR := hide (show VF es [] (firstL es l) by unfold firstL; exact VF.first _ HAL.out _ (Nat.le_refl _))
  have FL := hide (show (firstL es l).length = len by unfold firstL; rw [firstN_len]; exact hel)
  clear hb2 hg ho hgr hel hn
  go_wp2_with fail
  go_loopw [12, 11] (fun vi va wr => ∃ (k : Nat) (A : Option Addr) (cap : Nat), k ≤ len ∧ vi = .int .i64 k ∧ va = .slice A k cap ∧ Hid (wr.ownsRow W2.heap.size 3 1 (.slice A k cap) k (ints (natI (List.range k)))) ∧ Hid (Below W2.heap.size W2 wr)) (fun vi _ _ => len - (intOf vi).toNat)
  case atStart => exact ⟨0, none, 0, by omega, rfl, rfl, hide ⟨rfl, .inl ⟨rfl, rfl⟩⟩, hide (Below.refl _ _)⟩
  case round =>
    obtain ⟨k, A9, cap9, hk, rfl, rfl, OW, HB⟩ := hrel
    rename World => W3
    have HBW := hide (HB2.out.trans (HB.out.mono HB2.out.size))
    by_cases hlt : k < len
    · have hltI : (k : Int) < (len : Int) := by omega
      obtain ⟨A1, c1, w4, hrun, hown, hb4, _⟩ := push_int W3 W2.heap.size A9 cap9 k (natI (List.range k)) (k : Int) (by rw [natI_len, List.length_range]) OW.out HB.out.size (by omega)
      have OW4 : Hid (w4.ownsRow W2.heap.size 3 1 (.slice A1 (k + 1) c1) (k + 1) (ints (natI (List.range (k + 1))))) := hide (by rw [List.range_succ, natI_app]; exact hown)
      have HB4 := hide (HB.out.trans hb4)
      clear hown hb4
      go_wp2_with (at_builtin; refine Lib.wpList_append_run _ rfl (.tmp 39) (.tmp 41) _ _ rfl _ _ rfl rfl _ w4 hrun ?_)
      go_roundw
      case rel => exact ⟨k + 1, A1, c1, by omega, by go_num, rfl, OW4, HB4⟩
      case measure => simp [intOf] <;> omega
    have hltI : ¬ (k : Int) < (len : Int) := by omega
    have hke : k = len := by omega
    rw [hke] at OW ⊢
    clear hke hlt hltI hk
    have HO3 := hide (HO.out.below HB.out)
    have FC := hide (First_c o W1.heap.size len cap2 es a2 l W3 (HO.out.more (Nat.le_refl _) (Nat.le_refl _) |>.below HB.out) HEL.out hle HAL.out HAH.out (rd_on RD.out HBW.out) (by omega))
    go_wp2_with fail
    refine FC.out.mono ?_
    rintro e W4 ⟨v4, rfl, hw4, hb4⟩
    obtain ⟨r, hr⟩ : ∃ x, firstL es l = x := ⟨_, rfl⟩
    rw [hr] at VR FL hw4
    have hrl := FL.out
    obtain ⟨A4, c4, rfl, hr4⟩ := own_rd0 hw4 (by rw [natI_len]; exact hrl)
    have HB4 := hide (HB.out.trans (hb4.mono HB.out.size))
    have R4 := hide hr4
    have O4 := hide hw4
    have OWA := hide (own_rd (own_belowR OW.out hb4) (by rw [natI_len, List.length_range]))
    have IC := hide (fun (A : Option Addr) (cap : Nat) (l : List Int) (w : World) (hb : Below W2.heap.size W2 w) (hr : Rd w w.heap.size A l) (hm : l.length ≤ maxLen) => Is_c o W1.heap.size n len 0 cap (evN F) es A l w (HO.out.below hb) HEL.out hle (by rw [← HEL.out]; exact HAL.out) (by rw [← HEL.out]; exact fun i hi => Nat.le_trans (HAH.out i hi) (by omega)) hr hm)
    have I1 := hide (IC.out A9 cap9 _ W4 HB4.out OWA.out (by rw [natI_len, List.length_range]; unfold maxLen; omega))
    rw [VA.out, natI_len, List.length_range, decide_eq_true rfl, Bool.true_and] at I1
    clear hb4 hw4 hr4 FC hr hrl OW
    go_wp2_with fail
    refine I1.out.mono ?_
    rintro e W5 ⟨rfl, hb5⟩
    have HB5 := hide (HB4.out.trans (hb5.mono HB4.out.size))
    have R5 := hide (rd_on R4.out hb5)
    have O5 := hide (own_belowR O4.out hb5)
    have I2 := hide (IC.out A4 c4 (natI r) W5 HB5.out R5.out (by rw [natI_len, FL.out]; unfold maxLen; omega))
    rw [(isF_iff r [] _ (fun m => by simp)).2 VR.out, natI_len, FL.out, decide_eq_true rfl, Bool.true_and] at I2
    clear hb5 I1 R4 OWA
    go_wp2_with fail
    refine I2.out.mono ?_
    rintro e W6 ⟨rfl, hb6⟩
    have HB6 := hide (HB5.out.trans (hb6.mono HB5.out.size))
    have HBW6 := hide (HB2.out.trans (HB6.out.mono HB2.out.size))
    have R6 := hide (rd_on R5.out hb6)
    have O6 := hide (own_belowR O5.out hb6)
    have hneI : ((len : Int) != (len : Int)) = false := by simp
    clear hb6 I2 R5
    by_cases hl2 : len < 2
    · have hl2I : (len : Int) < 2 := by omega
      go_wp2_with fail
      go_ret
      exact ⟨rfl, HBW6.out⟩
    have hl2I : ¬ (len : Int) < 2 := by omega
    obtain ⟨p, hp, ep⟩ := rem_in a3 (len - 1) (by omega) (by omega)
    have ecast : ((len - 1 : Nat) : Int) = (len : Int) - 1 := by omega
    rw [ecast] at ep
    have hw64 : IntKind.u64.wrap ((len : Int) - 1) = (len : Int) - 1 := by rw [IntKind.wrap_u64]; omega
    obtain ⟨A7, c7, W7, hrun7, hown7, hb7⟩ := copy_int W6 A4 c4 len (natI r) (by rw [natI_len]; exact FL.out) R6.out (by omega)
    have OW7 := hide hown7
    have HB7 := hide hb7
    clear hown7 hb7
    go_wp2_with (at_builtin; refine Lib.wpList_append_run _ rfl (.tmp 74) (.tmp 75) _ _ rfl _ _ rfl rfl _ W7 hrun7 ?_)
    have hpn : p + 1 < r.length := by have := FL.out; omega
    obtain ⟨pre, x, y, suf, hsp, hpl⟩ : ∃ pre x y suf, r = pre ++ x :: y :: suf ∧ pre.length = p := by
      refine ⟨r.take p, r[p], r[p + 1], r.drop (p + 2), ?_, by rw [List.length_take]; omega⟩
      rw [← List.drop_eq_getElem_cons hpn, ← List.drop_eq_getElem_cons (by omega), List.take_append_drop]
    obtain ⟨g4, rfl, _, _, ⟨cs4, hb4⟩, _, _, hc4⟩ := own_cell O6.out (by omega)
    obtain ⟨g7, rfl, hg7, _, ⟨cs7, hb7⟩, hf7, _, hc7⟩ := own_cell OW7.out (by omega)
    have hg4 : g4 < W6.heap.size := hb4.lt
    have hxp : (ints (natI r))[p]? = some (.int .i64 (x : Int)) := by rw [hsp, ← hpl]; simp [ints, natI]
    have hyp : (ints (natI r))[p + 1]? = some (.int .i64 (y : Int)) := by rw [hsp, ← hpl]; simp [ints, natI]
    have q4a : W7.cell? ⟨g4, p, none⟩ = some (.int .i64 (x : Int)) := (HB7.out.cell (p := ⟨g4, p, none⟩) hg4).trans (hc4 p _ hxp)
    have q4b : W7.cell? ⟨g4, p + 1, none⟩ = some (.int .i64 (y : Int)) := (HB7.out.cell (p := ⟨g4, p + 1, none⟩) hg4).trans (hc4 (p + 1) _ hyp)
    have q7a := hc7 p _ hxp
    have q7b := hc7 (p + 1) _ hyp
    have f7a := hf7 p
    have f7b := hf7 (p + 1)
    have hne : ¬ g4 = g7 := by omega
    have hne' : ¬ g7 = g4 := by omega
    have hpI : (p : Int) < (len : Int) := by omega
    have hpI1 : (p : Int) + 1 < (len : Int) := by omega
    have HSP := hide hsp
    have HPL := hide hpl
    have HG := hide (And.intro hg4 hg7)
    try rw [ep]
    clear hsp hpl hb4 hb7 hc4 hc7 hf7 hrun7 hg4 hg7 hxp hyp ep ecast hw64
    go_region
    have ow8 := own_set (own_set OW7.out (k := p) (.int .i64 (y : Int))) (k := p + 1) (.int .i64 (x : Int))
    have htr : ((ints (natI r)).set p (.int .i64 (y : Int))).set (p + 1) (.int .i64 (x : Int)) = ints (natI (pre ++ y :: x :: suf)) := by
      rw [HSP.out, ← HPL.out]
      simp [ints, natI, List.set_append]
    rw [htr] at ow8
    have hb8 : Below W6.heap.size W6 ((W7.setCell ⟨g7, p, none⟩ (.int .i64 (y : Int))).setCell ⟨g7, p + 1, none⟩ (.int .i64 (x : Int))).drew := ((HB7.out.setCell (p := ⟨g7, p, none⟩) HG.out.2 _).setCell (p := ⟨g7, p + 1, none⟩) HG.out.2 _).drew
    have z4a := (hb8.cell (p := ⟨g4, p, none⟩) HG.out.1)
    have z4b := (hb8.cell (p := ⟨g4, p + 1, none⟩) HG.out.1)
    rw [show W6.cell? ⟨g4, p, none⟩ = some (.int .i64 (x : Int)) from ((HB7.out.cell (p := ⟨g4, p, none⟩) HG.out.1).symm.trans q4a)] at z4a
    rw [show W6.cell? ⟨g4, p + 1, none⟩ = some (.int .i64 (y : Int)) from ((HB7.out.cell (p := ⟨g4, p + 1, none⟩) HG.out.1).symm.trans q4b)] at z4b
    have ow8d : ((W7.setCell ⟨g7, p, none⟩ (.int .i64 (y : Int))).setCell ⟨g7, p + 1, none⟩ (.int .i64 (x : Int))).drew.ownsRow W6.heap.size 3 1 (.slice (some ⟨g7, 0, none⟩) len c7) len (ints (natI (pre ++ y :: x :: suf))) := ow8
    obtain ⟨W8, hW8⟩ : ∃ X, ((W7.setCell ⟨g7, p, none⟩ (.int .i64 (y : Int))).setCell ⟨g7, p + 1, none⟩ (.int .i64 (x : Int))).drew = X := ⟨_, rfl⟩
    rw [hW8] at hb8 z4a z4b ow8d ⊢
    have HB8 := hide (HB6.out.trans (hb8.mono HB6.out.size))
    have HTL := hide (show (pre ++ y :: x :: suf).length = len by have := FL.out; rw [HSP.out] at this; simpa using this)
    have HXY := hide (show x < es.length ∧ y < es.length from ⟨(VF.mem r [] VR.out x (by rw [HSP.out]; simp)).1, (VF.mem r [] VR.out y (by rw [HSP.out]; simp)).1⟩)
    have HSW := VF.swap HI.out (pre := pre) (suf := suf) (x := x) (y := y) (by rw [← HSP.out]; exact VR.out)
    have HNXY : x ≠ y := fun e => by
      have h1 := VR.out
      rw [HSP.out] at h1
      obtain ⟨_, h2⟩ := (VF.app _ _ _).1 h1
      exact h2.2.2.2.2.1 (by simp [e])
    obtain ⟨ab, hab⟩ : ∃ z, aheadB es x y = z := ⟨_, rfl⟩
    have hisf : isF es (natI (pre ++ y :: x :: suf)) (fun _ => false) = !ab := by
      have h1 := isF_iff (es := es) (pre ++ y :: x :: suf) [] (fun _ => false) (fun m => by simp)
      have h2 := TW.out.ahead HXY.out.1 HXY.out.2
      rw [hab] at h2
      cases ab with
      | true =>
        cases h9 : isF es (natI (pre ++ y :: x :: suf)) (fun _ => false) with
        | false => rfl
        | true => exact absurd (h2.1 rfl).2 (HSW.1 (h1.1 h9))
      | false => exact h1.2 (HSW.2 (fun h => by have := h2.2 ⟨HNXY, h⟩; cases this))
    have IS9 := hide (fun (w' : World) (hb : Below W8.heap.size W8 w') => by
      have := IC.out (some ⟨g7, 0, none⟩) c7 (natI (pre ++ y :: x :: suf)) w' (HB8.out.trans (hb.mono HB8.out.size)) (rd_on (own_rd ow8d (by rw [natI_len]; exact HTL.out)) hb) (by rw [natI_len, HTL.out]; unfold maxLen; omega)
      rw [hisf, natI_len, HTL.out, decide_eq_true rfl, Bool.true_and] at this
      exact this)
    have AH9 := hide (fun (w' : World) (hb : Below W8.heap.size W8 w') => by
      have := Ahead_b o W1.heap.size W1.heap.size n es (evN F) x y w' (HO.out.below (HB8.out.trans (hb.mono HB8.out.size))) TW.out.s
      rw [hab] at this
      exact this)
    clear hisf hab HSW ow8 ow8d htr hW8 hb8 q4a q4b q7a q7b f7a f7b HNXY
    let R : Nat → Value → World → Prop := fun sl u _ => match sl with
      | 93 | 96 => u = .pointer (some ⟨o, 0, none⟩)
      | 94 => u = .slice (some ⟨g7, 0, none⟩) len c7
      | 95 | 107 => u = .bool (!ab)
      | 97 | 101 => u = .slice (some ⟨g4, 0, none⟩) len c4
      | 98 | 102 => u = .int .i64 p
      | 99 => u = .pointer (some ⟨g4, p, none⟩)
      | 100 => u = .int .i64 (x : Int)
      | 103 => u = .int .i64 ((p : Int) + 1)
      | 104 => u = .pointer (some ⟨g4, p + 1, none⟩)
      | 105 => u = .int .i64 (y : Int)
      | 106 => u = .bool ab
      | 108 | 8 => u = .bool true
      | _ => True
    go_wp2_with fail
    refine wp_region_rel R (by kernel_rfl) (by kernel_rfl) (by kernel_rfl) (fun t v wx wy h _ => h) ?step21 ?fin21
    case step21 =>
      intro op hop
      simp only [List.mem_cons, List.not_mem_nil, or_false] at hop
      rcases hop with rfl | rfl | rfl | rfl | rfl | rfl | rfl | rfl | rfl | rfl | rfl | rfl | rfl | rfl | rfl | rfl | rfl
      · intro a w1 hb hs hr
        have e9 : a.tmps.getD 9 undef = .pointer (some ⟨o, 0, none⟩) := hs 9 (by decide)
        rw [Array.getD_eq_getD_getElem?] at e9
        unfold Oper.wp
        simp only [execOp, Act.eval, Array.getD_eq_getD_getElem?, e9]
        go_simp
        exact ⟨_, rfl, rfl, Below.refl _ _⟩
      · intro a w1 hb hs hr
        have e15 : a.tmps.getD 15 undef = .slice (some ⟨g7, 0, none⟩) len c7 := hs 15 (by decide)
        rw [Array.getD_eq_getD_getElem?] at e15
        unfold Oper.wp
        simp only [execOp, Act.eval, Array.getD_eq_getD_getElem?, e15]
        go_simp
        exact ⟨_, rfl, rfl, Below.refl _ _⟩
      · intro a w1 hb hs hr
        have e93 : a.tmps.getD 93 undef = .pointer (some ⟨o, 0, none⟩) := hr 93 (by decide) (by apply Array.mem_toList_iff.1; repeat (first | exact List.Mem.head _ | apply List.Mem.tail))
        have e94 : a.tmps.getD 94 undef = .slice (some ⟨g7, 0, none⟩) len c7 := hr 94 (by decide) (by apply Array.mem_toList_iff.1; repeat (first | exact List.Mem.head _ | apply List.Mem.tail))
        rw [Array.getD_eq_getD_getElem?] at e93
        rw [Array.getD_eq_getD_getElem?] at e94
        unfold Oper.wp
        simp only [execOp, Act.eval, Array.getD_eq_getD_getElem?, e93, e94]
        go_simp
        refine (IS9.out w1 hb).mono ?_
        rintro e w9 ⟨rfl, hb9⟩
        exact ⟨_, rfl, rfl, hb9⟩
      · intro a w1 hb hs hr
        have e9 : a.tmps.getD 9 undef = .pointer (some ⟨o, 0, none⟩) := hs 9 (by decide)
        rw [Array.getD_eq_getD_getElem?] at e9
        unfold Oper.wp
        simp only [execOp, Act.eval, Array.getD_eq_getD_getElem?, e9]
        go_simp
        exact ⟨_, rfl, rfl, Below.refl _ _⟩
      · intro a w1 hb hs hr
        have e13 : a.tmps.getD 13 undef = .slice (some ⟨g4, 0, none⟩) len c4 := hs 13 (by decide)
        rw [Array.getD_eq_getD_getElem?] at e13
        unfold Oper.wp
        simp only [execOp, Act.eval, Array.getD_eq_getD_getElem?, e13]
        go_simp
        exact ⟨_, rfl, rfl, Below.refl _ _⟩
      · intro a w1 hb hs hr
        have e14 : a.tmps.getD 14 undef = .int .i64 p := hs 14 (by decide)
        rw [Array.getD_eq_getD_getElem?] at e14
        unfold Oper.wp
        simp only [execOp, Act.eval, Array.getD_eq_getD_getElem?, e14]
        go_simp
        exact ⟨_, rfl, rfl, Below.refl _ _⟩
      · intro a w1 hb hs hr
        have e97 : a.tmps.getD 97 undef = .slice (some ⟨g4, 0, none⟩) len c4 := hr 97 (by decide) (by apply Array.mem_toList_iff.1; repeat (first | exact List.Mem.head _ | apply List.Mem.tail))
        have e98 : a.tmps.getD 98 undef = .int .i64 p := hr 98 (by decide) (by apply Array.mem_toList_iff.1; repeat (first | exact List.Mem.head _ | apply List.Mem.tail))
        rw [Array.getD_eq_getD_getElem?] at e97
        rw [Array.getD_eq_getD_getElem?] at e98
        unfold Oper.wp
        simp only [execOp, Act.eval, Array.getD_eq_getD_getElem?, e97, e98]
        go_simp
        exact ⟨_, rfl, rfl, Below.refl _ _⟩
      · intro a w1 hb hs hr
        have e99 : a.tmps.getD 99 undef = .pointer (some ⟨g4, p, none⟩) := hr 99 (by decide) (by apply Array.mem_toList_iff.1; repeat (first | exact List.Mem.head _ | apply List.Mem.tail))
        have cc0 := (hb.cell (p := ⟨_, _, none⟩) (block_lt_of_cell z4a)).trans z4a
        rw [Array.getD_eq_getD_getElem?] at e99
        unfold Oper.wp
        simp only [execOp, Act.eval, Array.getD_eq_getD_getElem?, e99]
        go_simp
        exact ⟨_, rfl, rfl, Below.refl _ _⟩
      · intro a w1 hb hs hr
        have e13 : a.tmps.getD 13 undef = .slice (some ⟨g4, 0, none⟩) len c4 := hs 13 (by decide)
        rw [Array.getD_eq_getD_getElem?] at e13
        unfold Oper.wp
        simp only [execOp, Act.eval, Array.getD_eq_getD_getElem?, e13]
        go_simp
        exact ⟨_, rfl, rfl, Below.refl _ _⟩
      · intro a w1 hb hs hr
        have e14 : a.tmps.getD 14 undef = .int .i64 p := hs 14 (by decide)
        rw [Array.getD_eq_getD_getElem?] at e14
        unfold Oper.wp
        simp only [execOp, Act.eval, Array.getD_eq_getD_getElem?, e14]
        go_simp
        exact ⟨_, rfl, rfl, Below.refl _ _⟩
      · intro a w1 hb hs hr
        have e102 : a.tmps.getD 102 undef = .int .i64 p := hr 102 (by decide) (by apply Array.mem_toList_iff.1; repeat (first | exact List.Mem.head _ | apply List.Mem.tail))
        rw [Array.getD_eq_getD_getElem?] at e102
        unfold Oper.wp
        simp only [execOp, Act.eval, Array.getD_eq_getD_getElem?, e102]
        go_simp
        exact ⟨_, rfl, (by show Value.int IntKind.i64 _ = .int .i64 _; congr 1; rw [IntKind.wrap_i64]; omega), Below.refl _ _⟩
      · intro a w1 hb hs hr
        have e101 : a.tmps.getD 101 undef = .slice (some ⟨g4, 0, none⟩) len c4 := hr 101 (by decide) (by apply Array.mem_toList_iff.1; repeat (first | exact List.Mem.head _ | apply List.Mem.tail))
        have e103 : a.tmps.getD 103 undef = .int .i64 ((p : Int) + 1) := hr 103 (by decide) (by apply Array.mem_toList_iff.1; repeat (first | exact List.Mem.head _ | apply List.Mem.tail))
        rw [Array.getD_eq_getD_getElem?] at e101
        rw [Array.getD_eq_getD_getElem?] at e103
        unfold Oper.wp
        simp only [execOp, Act.eval, Array.getD_eq_getD_getElem?, e101, e103]
        go_simp
        exact ⟨_, rfl, rfl, Below.refl _ _⟩
      · intro a w1 hb hs hr
        have e104 : a.tmps.getD 104 undef = .pointer (some ⟨g4, p + 1, none⟩) := hr 104 (by decide) (by apply Array.mem_toList_iff.1; repeat (first | exact List.Mem.head _ | apply List.Mem.tail))
        have cc0 := (hb.cell (p := ⟨_, _, none⟩) (block_lt_of_cell z4b)).trans z4b
        rw [Array.getD_eq_getD_getElem?] at e104
        unfold Oper.wp
        simp only [execOp, Act.eval, Array.getD_eq_getD_getElem?, e104]
        go_simp
        exact ⟨_, rfl, rfl, Below.refl _ _⟩
      · intro a w1 hb hs hr
        have e96 : a.tmps.getD 96 undef = .pointer (some ⟨o, 0, none⟩) := hr 96 (by decide) (by apply Array.mem_toList_iff.1; repeat (first | exact List.Mem.head _ | apply List.Mem.tail))
        have e100 : a.tmps.getD 100 undef = .int .i64 (x : Int) := hr 100 (by decide) (by apply Array.mem_toList_iff.1; repeat (first | exact List.Mem.head _ | apply List.Mem.tail))
        have e105 : a.tmps.getD 105 undef = .int .i64 (y : Int) := hr 105 (by decide) (by apply Array.mem_toList_iff.1; repeat (first | exact List.Mem.head _ | apply List.Mem.tail))
        rw [Array.getD_eq_getD_getElem?] at e96
        rw [Array.getD_eq_getD_getElem?] at e100
        rw [Array.getD_eq_getD_getElem?] at e105
        unfold Oper.wp
        simp only [execOp, Act.eval, Array.getD_eq_getD_getElem?, e96, e100, e105]
        go_simp
        refine (AH9.out w1 hb).mono ?_
        rintro e w9 ⟨rfl, hb9⟩
        exact ⟨_, rfl, rfl, hb9⟩
      · intro a w1 hb hs hr
        have e106 : a.tmps.getD 106 undef = .bool ab := hr 106 (by decide) (by apply Array.mem_toList_iff.1; repeat (first | exact List.Mem.head _ | apply List.Mem.tail))
        rw [Array.getD_eq_getD_getElem?] at e106
        unfold Oper.wp
        simp only [execOp, Act.eval, Array.getD_eq_getD_getElem?, e106]
        go_simp
        exact ⟨_, rfl, rfl, Below.refl _ _⟩
      · intro a w1 hb hs hr
        have e95 : a.tmps.getD 95 undef = .bool (!ab) := hr 95 (by decide) (by apply Array.mem_toList_iff.1; repeat (first | exact List.Mem.head _ | apply List.Mem.tail))
        have e107 : a.tmps.getD 107 undef = .bool (!ab) := hr 107 (by decide) (by apply Array.mem_toList_iff.1; repeat (first | exact List.Mem.head _ | apply List.Mem.tail))
        rw [Array.getD_eq_getD_getElem?] at e95
        rw [Array.getD_eq_getD_getElem?] at e107
        unfold Oper.wp
        simp only [execOp, Act.eval, Array.getD_eq_getD_getElem?, e95, e107]
        go_simp
        exact ⟨_, rfl, (by show Value.bool _ = .bool true; cases ab <;> rfl), Below.refl _ _⟩
      · intro a w1 hb hs hr
        have e108 : a.tmps.getD 108 undef = .bool true := hr 108 (by decide) (by apply Array.mem_toList_iff.1; repeat (first | exact List.Mem.head _ | apply List.Mem.tail))
        rw [Array.getD_eq_getD_getElem?] at e108
        unfold Oper.wp
        simp only [execOp, Act.eval, Array.getD_eq_getD_getElem?, e108]
        go_simp
        exact ⟨_, rfl, rfl, Below.refl _ _⟩
    case fin21 =>
      intro ff w9 hb hr
      have e8 : ff 8 = .bool true := hr 8 (by decide)
      have HB9 := hide (HB2.out.trans ((HB8.out.trans (hb.mono HB8.out.size)).mono HB2.out.size))
      clear hr hb
      simp only [putAll, slotsOf, List.take, List.drop, List.filterMap_cons, List.filterMap_nil, List.foldl_cons, List.foldl_nil, Act.put, e8]
      simp only [List.setIfInBounds_toArray, List.set_cons_succ, List.set_cons_zero]
      go_wp2_with fail
      go_ret
      exact ⟨rfl, HB9.out⟩
end Go.Proofs.Ytflaikhkddjfjaa.OrderOthersW
