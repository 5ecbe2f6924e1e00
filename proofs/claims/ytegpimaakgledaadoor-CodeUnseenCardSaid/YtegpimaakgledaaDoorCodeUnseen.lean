/- The walk of the statement CodeUnseen. -/
import Derived.Test.YtegpimaakgledaaDoorRows
import Derived.Test.YtegpimaakgledaaDoorCodR
import Derived.Test.YtegpimaakgledaaDoorCodS
import Derived.Test.YtegpimaakgledaaDoorCodT
import Derived.Test.YtegpimaakgledaaDoorCodU
namespace Go.Proofs.YtegpimaakgledaaDoor.CodeUnseenW
open Go Go.RowKit Go.Proofs.YtegpimaakgledaaDoor Go.Proofs.YtegpimaakgledaaDoor.Cod
set_option linter.unusedVariables false
set_option linter.unusedSimpArgs false
set_option maxRecDepth 100000 in
set_option maxHeartbeats 8000000 in
theorem walk {H : Type} {enc : TypeId × Value → H} {base : Nat} (W : World) (hO : Ops W) (hP : Pow W) (v0 : Value) (d0 : DataW H) (p0 : List MemPlace) (o0 : Value.okWide Tryd.prog W .any base 25 v0) (r0 : DataW.Trod enc Tryd.prog W 0 (fun _ => true) true 25 v0 d0 p0) (a1 : Int) (w1 : (Lit.int .i64 a1).wf = true) :
    Calls Tryd.prog 7 #[v0, .int .i64 a1] W fun e w' => e = .returned (.bool true) ∧ Below W.heap.size W w' := by
  obtain ⟨C, cs, cc, vars, A, l, ca, rfl, hC, hA, hv⟩ := PrV.of o0 r0
  clear o0 r0
  have hva := bounds_i64 w1
  clear w1
  have HO := hide hO
  have HP := hide hP
  have GR := hide (fun w => Great_c C cs.length cc vars A l.length ca w)
  have HT := hide (fun (w' : World) (h1 : CodeAt w' C cs) (h2 : IntAt w' A l) (h3 : Ops w') hlc hla => Heights_c C cc cs vars A ca l w' h1 h2 hlc hla h3)
  have CP := hide (fun (w' : World) (h1 : CodeAt w' C cs) (h2 : IntAt w' A l) hlc hla => Copy_c C cc cs vars A ca l w' h1 h2 hlc hla)
  have hb1 := (Below.refl W.heap.size W).alloc (Nat.le_refl _) (.cells #[.slice C cs.length cc, .int .i64 vars, .slice A l.length ca] 25)
  have k1 := Blk.new W 25 #[.slice C cs.length cc, .int .i64 vars, .slice A l.length ca]
  have HC := hide hC
  have HA := hide hA
  have HV := hide hva
  clear hC hA hO hP hva hv
  unfold PrV at GR HT CP ⊢
  go_enter Tryd.func7, Tryd.ntmps7
  go_upto_region 1 with (fail)
  obtain ⟨wb, hwb⟩ : ∃ z, W.alloc (.cells #[.slice C cs.length cc, .int .i64 vars, .slice A l.length ca] 25) = z := ⟨_, rfl⟩
  rw [hwb] at hb1 k1 ⊢
  have HB1 := hide hb1
  have K1 := hide k1
  clear hb1 k1 hwb
  go_wp2_with fail
  refine (awake_c wb (HO.out.below HB1.out (Nat.le_refl _)) (HP.out.below HB1.out (Nat.le_refl _))).mono ?_
  rintro e w2 ⟨rfl, hb2⟩
  have HB2 := hide (HB1.out.trans (hb2.mono HB1.out.size))
  have K2 := hide (K1.out.below hb2 K1.out.lt)
  clear hb2 K1 HB1
  have q0 : w2.cell? ⟨W.heap.size, 0, none⟩ = some (.slice C cs.length cc) := K2.out.cell 0
  have q1 : w2.cell? ⟨W.heap.size, 1, none⟩ = some (.int .i64 vars) := K2.out.cell 1
  have q2 : w2.cell? ⟨W.heap.size, 2, none⟩ = some (.slice A l.length ca) := K2.out.cell 2
  go_wp2_with fail
  refine (GR.out w2).mono ?_
  rintro e w3 ⟨rfl, hb3⟩
  have HB3 := hide (HB2.out.trans (hb3.mono HB2.out.size))
  have K3 := hide (K2.out.below hb3 K2.out.lt)
  clear hb3 K2 HB2 q0 q1 q2 GR
  cases hg : grC cs.length l.length with
  | true =>
    go_wp2_with fail
    go_ret
    exact ⟨rfl, HB3.out⟩
  | false =>
    have hgl : cs.length ≤ 400 ∧ l.length ≤ 100 := by
      unfold grC at hg
      simp only [Bool.or_eq_false_iff, decide_eq_false_iff_not] at hg
      omega
    have HGL := hide hgl
    clear hg hgl
    have q0 : w3.cell? ⟨W.heap.size, 0, none⟩ = some (.slice C cs.length cc) := K3.out.cell 0
    have q1 : w3.cell? ⟨W.heap.size, 1, none⟩ = some (.int .i64 vars) := K3.out.cell 1
    have q2 : w3.cell? ⟨W.heap.size, 2, none⟩ = some (.slice A l.length ca) := K3.out.cell 2
    go_wp2_with fail
    refine (HT.out w3 (HC.out.below HB3.out) (HA.out.below HB3.out) (HO.out.below HB3.out (Nat.le_refl _)) (by have := HGL.out.1; omega) (by have := HGL.out.2; omega)).mono ?_
    rintro e w4 ⟨⟨r, hr, hh⟩, hb4⟩
    have HB4 := hide (HB3.out.trans (hb4.mono HB3.out.size))
    have K4 := hide (K3.out.below hb4 K3.out.lt)
    have R := hide hr
    clear hb4 K3 HB3 q0 q1 q2 hr
    rcases hh with ⟨rfl, rfl⟩ | ⟨hs, g, rfl, hlen, hbd, rfl, hgw, hgb⟩
    · go_wp2_with fail
      go_ret
      exact ⟨rfl, HB4.out⟩
    have HH := hide (And.intro hlen hbd)
    obtain ⟨N, hN⟩ : ∃ N, cs.length = N := ⟨_, rfl⟩
    have HN := hide hN
    have HGB := hide hgb
    have hN4 : N ≤ 400 := by have := HGL.out.1; omega
    rw [hN]
    have hN0 : 0 < N := by
      rcases R.out with ⟨_, h⟩ | ⟨h, _⟩
      · cases h
      · have := (mayNs_csok h).pos; omega
    clear hlen hbd hgw hgb hN
    by_cases ha0 : a1 < 0
    · go_wp2_with fail
      go_ret
      exact ⟨rfl, HB4.out⟩
    obtain ⟨p, rfl⟩ : ∃ p : Nat, a1 = p := ⟨a1.toNat, by omega⟩
    have s1 : IntKind.i64.wrap ((N : Int) - 1) = (N : Int) - 1 := by rw [IntKind.wrap_i64]; omega
    by_cases hap : (N : Int) - 1 ≤ (p : Int)
    · go_wp2_with fail
      go_ret
      exact ⟨rfl, HB4.out⟩
    have hpN : p < N := by omega
    have hpI : (p : Int) < (N : Int) := by omega
    have hcell := HGB.out.cell p
    rw [hI_at (by have := HH.out.1; have := HN.out; omega)] at hcell
    obtain ⟨zz, hzz⟩ : ∃ z, hs.getD p 0 = z := ⟨_, rfl⟩
    have HZZ := hide hzz
    rw [hzz] at hcell
    clear hzz
    by_cases hz : zz = -1
    rotate_left
    · have z1 : (zz != -1) = true := by rw [bne_iff_ne]; exact hz
      clear hz
      go_wp2_with fail
      go_ret
      exact ⟨rfl, HB4.out⟩
    subst hz
    have q0 : w4.cell? ⟨W.heap.size, 0, none⟩ = some (.slice C N cc) := by rw [← HN.out]; exact K4.out.cell 0
    have q1 : w4.cell? ⟨W.heap.size, 1, none⟩ = some (.int .i64 vars) := K4.out.cell 1
    have q2 : w4.cell? ⟨W.heap.size, 2, none⟩ = some (.slice A l.length ca) := K4.out.cell 2
    have CQ := CP.out w4 (HC.out.below HB4.out) (HA.out.below HB4.out) (by have := HGL.out.1; omega) (by have := HGL.out.2; omega)
    rw [HN.out] at CQ
    have CQ := hide CQ
    go_wp2_with fail
    refine CQ.out.mono ?_
    rintro e w5 ⟨C2, cc2, A2, ca2, rfl, hown, hb5⟩
    have HB5 := hide (HB4.out.trans (hb5.mono HB4.out.size))
    have HG5 := hide (HGB.out.below hb5 HGB.out.lt)
    have HOW := hide hown
    clear q0 q1 q2 hb5 hown hcell CQ
    go_upto_region 9 with (fail)
    have hl6 := (Below.refl w5.heap.size w5).alloc (Nat.le_refl _) (.cells #[.slice C2 N cc2, .int .i64 vars, .slice A2 l.length ca2] 25)
    have k6 := Blk.new w5 25 #[.slice C2 N cc2, .int .i64 vars, .slice A2 l.length ca2]
    obtain ⟨hoc, hoa⟩ := HOW.out
    rw [HN.out] at hoc
    have hoc6 := own_belowR hoc hl6
    have hoa6 := own_belowR hoa hl6
    have hG6 := HG5.out.below hl6 HG5.out.lt
    have hb6 := HB5.out.trans (hl6.mono HB5.out.size)
    obtain ⟨w6, hw6⟩ : ∃ z, w5.alloc (.cells #[.slice C2 N cc2, .int .i64 vars, .slice A2 l.length ca2] 25) = z := ⟨_, rfl⟩
    rw [hw6] at k6 hoc6 hoa6 hG6 hb6 ⊢
    obtain ⟨g2, cap2, hC2, hg2, hg2l⟩ := hoc6.form hN0
    obtain rfl : C2 = some ⟨g2, 0, none⟩ := by injection hC2
    obtain ⟨_, _, cur2, hblk2⟩ := own_block hoc6 (g := g2) rfl
    have hpc : p < cs.length := by rw [HN.out]; exact hpN
    have c0 : w6.cell? ⟨g2, p * 2, none⟩ = some (.int .u8 (cs[p]).op) := by
      have := hoc6.cells (g := g2) rfl _ _ (codeCs_at cs p hpc).1
      rwa [Go.WideShapes.add_plain, Nat.zero_add] at this
    have c1 : w6.cell? ⟨g2, p * 2 + 1, none⟩ = some (.int .i64 (cs[p]).n) := by
      have := hoc6.cells (g := g2) rfl _ _ (codeCs_at cs p hpc).2
      rwa [Go.WideShapes.add_plain, Nat.zero_add] at this
    have f0 := hblk2.frozen (p * 2)
    have f1 := hblk2.frozen (p * 2 + 1)
    have q0 : w6.cell? ⟨w5.heap.size, 0, none⟩ = some (.slice (some ⟨g2, 0, none⟩) N cc2) := k6.cell 0
    have OC := hide (own_code_set hoc6 p ⟨13, 0⟩ hpc HN.out)
    have NE := hide (own_blk_ne hoc6 k6 (by decide))
    have K6 := hide k6
    have NA := hide (own_blk_ne hoa6 hblk2 (by decide))
    have NG := hide (Blk.ne_ hG6 hblk2 (by decide))
    have HG2 := hide hg2
    have OA6 := hide hoa6
    have HG6 := hide hG6
    have HB6 := hide hb6
    generalize (cs[p]).op = zo at *
    generalize (cs[p]).n = zn at *
    clear hl6 k6 hoc hoa hoc6 hoa6 hG6 hb6 hw6 hblk2 hC2
    go_upto_region 10 with (fail)
    obtain ⟨w7, hw7⟩ : ∃ z, (w6.setCell ⟨g2, p * 2, none⟩ (.int .u8 13)).setCell ⟨g2, p * 2 + 1, none⟩ (.int .i64 0) = z := ⟨_, rfl⟩
    have hoc7 := OC.out
    have k7 : Blk w7 w5.heap.size 25 #[.slice (some ⟨g2, 0, none⟩) N cc2, .int .i64 vars, .slice A2 l.length ca2] := by
      have hne : w5.heap.size ≠ g2 := fun e => NE.out (by rw [e]; rfl)
      rw [← hw7]
      exact (K6.out.far (p := ⟨g2, p * 2, none⟩) hne _).far (p := ⟨g2, p * 2 + 1, none⟩) hne _
    dsimp only at hoc7
    rw [hw7] at hoc7 ⊢
    have hg7 : Blk w7 g 3 (hI hs).toArray := by
      rw [← hw7]
      exact (HG6.out.far (p := ⟨g2, p * 2, none⟩) NG.out _).far (p := ⟨g2, p * 2 + 1, none⟩) NG.out _
    have hoa7 : w7.ownsRow w4.heap.size 3 1 (.slice A2 l.length ca2) l.length (intCs l) := by
      rw [← hw7]
      exact own_setCell (own_setCell OA6.out (p := ⟨g2, p * 2, none⟩) NA.out _) (p := ⟨g2, p * 2 + 1, none⟩) NA.out _
    have hb7 : Below W.heap.size W w7 := by
      have hle : W.heap.size ≤ g2 := by have := HB4.out.size; have := HG2.out; omega
      rw [← hw7]
      exact (HB6.out.setCell (p := ⟨g2, p * 2, none⟩) hle _).setCell (p := ⟨g2, p * 2 + 1, none⟩) hle _
    have okc : ∀ x ∈ cs, x.ok := fun x hx => by
      obtain ⟨i, hi, rfl⟩ := List.getElem_of_mem hx
      obtain ⟨_, _, _, hc⟩ := HC.out (by omega)
      exact (hc i hi).1
    have oka : ∀ x ∈ l, -9223372036854775808 ≤ x ∧ x ≤ 9223372036854775807 := fun x hx => by
      obtain ⟨i, hi, rfl⟩ := List.getElem_of_mem hx
      obtain ⟨_, _, _, hc⟩ := HA.out (by omega)
      exact (hc i hi).2
    have ok2 : ∀ x ∈ cs.set p ⟨13, 0⟩, x.ok := fun x hx => by
      rcases List.mem_or_eq_of_mem_set hx with h | rfl
      · exact okc x h
      · exact ok_small (by decide)
    have cl : (cs.set p ⟨13, 0⟩).length = N := by rw [List.length_set]; exact HN.out
    have H2 := Heights_c (some ⟨g2, 0, none⟩) cc2 (cs.set p ⟨13, 0⟩) vars A2 ca2 l w7 (CodeAt.of_own hoc7 ok2) (IntAt.of_own hoa7 oka) (by omega) (by have := HGL.out.2; omega) (HO.out.below hb7 (Nat.le_refl _))
    rw [cl] at H2
    unfold PrV at H2
    have H2 := hide H2
    have HR2 := hide (HtR.unseen R.out (p := p) (by have := HN.out; omega) HZZ.out)
    have HB7 := hide hb7
    have HG7 := hide hg7
    have CL := hide cl
    have q0 : w7.cell? ⟨w5.heap.size, 0, none⟩ = some (.slice (some ⟨g2, 0, none⟩) N cc2) := k7.cell 0
    have q1 : w7.cell? ⟨w5.heap.size, 1, none⟩ = some (.int .i64 vars) := k7.cell 1
    have q2 : w7.cell? ⟨w5.heap.size, 2, none⟩ = some (.slice A2 l.length ca2) := k7.cell 2
    clear hw7 hoc7 k7 hg7 hoa7 hb7 okc oka ok2 cl c0 c1 f0 f1
    go_wp2_with fail
    refine H2.out.mono ?_
    rintro e w8 ⟨⟨r, hr, hh⟩, hb8⟩
    have er := HtR.det hr HR2.out
    subst er
    rcases hh with ⟨h1, _⟩ | ⟨hs2, g8, h1, _, _, rfl, _, hgb⟩
    · cases h1
    cases h1
    rw [CL.out]
    have HB8 := hide (HB7.out.trans (hb8.mono HB7.out.size))
    have HG8 := hide (HG7.out.below hb8 HG7.out.lt)
    have HGC := hide hgb
    have hlen : hs.length = N := by have := HH.out.1; have := HN.out; omega
    have HLN := hide hlen
    clear hb8 hgb q0 q1 q2 H2 hr hlen s1
    go_wp2_with fail
    go_loopw [10] (fun vi wr => ∃ k : Nat, k ≤ N ∧ vi = .int .i64 k ∧ Hid (Blk wr g 3 (hI hs).toArray) ∧ Hid (Blk wr g8 3 (hI hs).toArray) ∧ Hid (Below W.heap.size W wr)) (fun vi _ => N - (RowKit.intOf vi).toNat)
    case atStart => exact ⟨0, Nat.zero_le _, rfl, HG8, HGC, HB8⟩
    case round =>
      obtain ⟨k, hk, rfl, HX, HY, HB9⟩ := hrel
      rename World => wr
      have h9 := HX.out
      have h8 := HY.out
      by_cases hlt : k < N
      · have hltI : (k : Int) < (N : Int) := by omega
        have a0 := h9.cell k
        have b0 := h8.cell k
        rw [hI_at (by have := HLN.out; omega)] at a0 b0
        obtain ⟨zk, hzk⟩ : ∃ z, hs.getD k 0 = z := ⟨_, rfl⟩
        rw [hzk] at a0 b0
        have zf : (zk != zk) = false := by simp
        clear hzk h9 h8
        go_wp2_with fail
        go_quiet (fail)
        go_wp2_with fail
        go_roundw
        case rel => exact ⟨k + 1, by omega, by go_num, hide (HX.out.drewN _), hide (HY.out.drewN _), hide (below_drewN HB9.out _)⟩
        case measure => simp [RowKit.intOf] <;> omega
      have hltI : ¬ (k : Int) < (N : Int) := by omega
      clear h9 h8
      go_wp2_with fail
      go_ret
      exact ⟨rfl, HB9.out⟩
end Go.Proofs.YtegpimaakgledaaDoor.CodeUnseenW
