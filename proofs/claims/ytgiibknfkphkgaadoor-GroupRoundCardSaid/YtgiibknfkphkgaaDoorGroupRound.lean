/- The walk of the statement GroupRound: of any group, any number; without conditions. -/
import Derived.Test.YtgiibknfkphkgaaDoorRows
import Derived.Test.YtgiibknfkphkgaaDoorSpM
import Derived.Test.YtgiibknfkphkgaaDoorSpN
import Derived.Test.YtgiibknfkphkgaaDoorSpO
import Derived.LoopN
namespace Go.Proofs.YtgiibknfkphkgaaDoor.GroupRoundW
open Go Go.Joins Go.ChangeShapes Go.WideShapes Go.RowKit Go.Deep Go.Proofs.YtgiibknfkphkgaaDoor Go.Proofs.YtgiibknfkphkgaaDoor.Grp Go.Proofs.YtgiibknfkphkgaaDoor.Sp
set_option linter.unusedVariables false
set_option linter.unusedSimpArgs false
theorem at_one {l : List Int} (hl : okL l) {i : Nat} (hi : i < l.length) {z : Int} (h : At1 l (l.getD i 0) z) : z = (i : Int) := by
  rcases h with ⟨rfl, hno⟩ | ⟨k, hk, rfl, he, _⟩
  · exact absurd rfl (hno i hi)
  · rw [List.getD_eq_getElem?_getD, List.getD_eq_getElem?_getD, List.getElem?_eq_getElem hk, List.getElem?_eq_getElem hi] at he
    have := (List.getElem?_inj hk hl.2 (j := i)).1 (by rw [List.getElem?_eq_getElem hk, List.getElem?_eq_getElem hi]; exact congrArg some he)
    omega
set_option maxRecDepth 100000 in
set_option maxHeartbeats 8000000 in
theorem walk {H : Type} {enc : TypeId × Value → H} {base : Nat} (W : World) (hP : Pow W) (v0 : Value) (d0 : DataW H) (p0 : List MemPlace) (o0 : Value.okWide Tryd.prog W .any base 24 v0) (r0 : DataW.Trod enc Tryd.prog W 0 (fun _ => true) true 24 v0 d0 p0) (n : Int) (w1 : (Lit.int .i64 n).wf = true) :
    Calls Tryd.prog 4 #[v0, .int .i64 n] W fun e w' => e = .returned (.bool true) ∧ Below W.heap.size W w' := by
  obtain ⟨key, A, l, cap, rfl, hr⟩ := group_of o0 r0 (fun _ => rfl)
  have hfit := fit_wf w1
  clear o0 r0 w1
  have hb1 := (Below.refl W.heap.size W).alloc (Nat.le_refl _) (.cells #[.string key, .slice A l.length cap] 24)
  have b1 := Blk.new W 24 #[.string key, .slice A l.length cap]
  obtain ⟨W1, hW1⟩ : ∃ W1, W.alloc (.cells #[.string key, .slice A l.length cap] 24) = W1 := ⟨_, rfl⟩
  rw [hW1] at hb1 b1
  have AW := hide (awake_c W1 (hP.below hb1 (Nat.le_refl _)))
  have HN := hide (hr.below hb1)
  have HB1 := hide hb1
  have B1 := hide b1
  clear hb1 b1 hr hP
  unfold fit64 at hfit
  go_enter Tryd.func4, Tryd.ntmps4
  go_wp2_with fail
  refine AW.out.mono ?_
  rintro e w2 ⟨rfl, hb2⟩
  have HB2 := hide hb2
  have b2 := B1.out.below hb2 B1.out.lt
  have q0 : w2.cell? ⟨W.heap.size, 0, none⟩ = some (.string key) := b2.cell 0
  have q1 : w2.cell? ⟨W.heap.size, 1, none⟩ = some (.slice A l.length cap) := b2.cell 1
  have GR := hide (Great_a key A l.length cap w2)
  clear hb2 b2 AW
  go_wp2_with fail
  refine GR.out.mono ?_
  rintro e w3 ⟨rfl, hb3⟩
  have HB3 := hide (HB2.out.trans (hb3.mono HB2.out.size))
  have b3 := B1.out.below HB3.out B1.out.lt
  have x0 : w3.cell? ⟨W.heap.size, 0, none⟩ = some (.string key) := b3.cell 0
  have x1 : w3.cell? ⟨W.heap.size, 1, none⟩ = some (.slice A l.length cap) := b3.cell 1
  clear hb3 b3 q0 q1 GR
  cases hg : gt key l.length with
  | true =>
    clear hg
    go_wp2_with fail
    go_ret
    exact ⟨rfl, HB1.out.trans (HB3.out.mono HB1.out.size)⟩
  | false =>
  have hrl : l.length ≤ 80 := by
    unfold gt at hg
    simp at hg
    omega
  have HRL := hide hrl
  have MC := hide (May_a key A cap l w3 (HN.out.below HB3.out) (by omega))
  clear hg hrl
  go_wp2_with fail
  refine MC.out.mono ?_
  rintro e w4 ⟨rfl, hb4⟩
  have HB4 := hide (HB3.out.trans (hb4.mono HB3.out.size))
  have b4 := B1.out.below HB4.out B1.out.lt
  have q0 : w4.cell? ⟨W.heap.size, 0, none⟩ = some (.string key) := b4.cell 0
  have q1 : w4.cell? ⟨W.heap.size, 1, none⟩ = some (.slice A l.length cap) := b4.cell 1
  clear hb4 b4 x0 x1 MC
  by_cases hmay : mayL l
  rotate_left
  · rw [decide_eq_false hmay]
    clear hmay
    go_wp2_with fail
    go_ret
    exact ⟨rfl, HB1.out.trans (HB4.out.mono HB1.out.size)⟩
  rw [decide_eq_true hmay]
  have HM := hide hmay
  have RC := hide (Rank_c key A cap l n w4 (HN.out.below HB4.out) (by have := HRL.out; omega))
  clear hmay
  go_wp2_with fail
  refine RC.out.mono ?_
  rintro e w5 ⟨rfl, hb5⟩
  have HB5 := hide (HB4.out.trans (hb5.mono HB4.out.size))
  have b5 := B1.out.below HB5.out B1.out.lt
  have x0 : w5.cell? ⟨W.heap.size, 0, none⟩ = some (.string key) := b5.cell 0
  have x1 : w5.cell? ⟨W.heap.size, 1, none⟩ = some (.slice A l.length cap) := b5.cell 1
  clear hb5 b5 q0 q1 RC
  by_cases hin : 0 ≤ n ∧ n < (l.length : Int)
  rotate_left
  · rw [if_neg hin]
    by_cases hn0 : 0 ≤ n
    · have hn1 : ¬ n < (l.length : Int) := fun h => hin ⟨hn0, h⟩
      clear hin
      have NC2 := hide (Number_c key A cap l n w5 (HN.out.below HB5.out) (by have := HRL.out; omega))
      go_wp2_with fail
      refine NC2.out.mono ?_
      rintro e wt ⟨z2, rfl, hat2, hbt⟩
      have HBT := hide (HB5.out.trans (hbt.mono HB5.out.size))
      have bt := B1.out.below HBT.out B1.out.lt
      have y0 : wt.cell? ⟨W.heap.size, 0, none⟩ = some (.string key) := bt.cell 0
      have y1 : wt.cell? ⟨W.heap.size, 1, none⟩ = some (.slice A l.length cap) := bt.cell 1
      clear hbt bt NC2
      rcases hat2 with ⟨rfl, hno⟩ | ⟨i2, hi2, rfl, he2, _⟩
      · have HNO := hide hno
        clear hno
        have hm : (max (-1 : Int) 0) = 0 := by omega
        have hd : decide ((0 : Int) ≤ -1) = false := by decide
        rw [hm, hd]
        clear hm hd
        go_wp2_with fail
        have hrl80 := HRL.out
        go_loopw [13] (fun vi wr => ∃ i : Nat, i ≤ l.length ∧ vi = .int .i64 i ∧ Hid (Below W1.heap.size W1 wr)) (fun vi _ => l.length - (RowKit.intOf vi).toNat)
        case atStart => exact ⟨0, Nat.zero_le _, rfl, HBT⟩
        case round =>
          obtain ⟨i, hi, rfl, HB⟩ := hrel
          rename World => wr
          have br := B1.out.below HB.out B1.out.lt
          have y0 : wr.cell? ⟨W.heap.size, 0, none⟩ = some (.string key) := br.cell 0
          have y1 : wr.cell? ⟨W.heap.size, 1, none⟩ = some (.slice A l.length cap) := br.cell 1
          clear br
          by_cases hlt : i < l.length
          · have hltI : (i : Int) < (l.length : Int) := by omega
            obtain ⟨ad, rfl, had, hcd⟩ := HN.out.below HB.out (by omega)
            have hc := hcd i hlt
            have hne := HNO.out i hlt
            obtain ⟨y, hy⟩ : ∃ y, l.getD i 0 = y := ⟨_, rfl⟩
            rw [hy] at hc hne
            have hneB : (y == n) = false := by rw [beq_eq_false_iff_ne]; exact hne
            clear hcd hy hne
            go_wp2_with fail
            go_roundw
            case rel => exact ⟨i + 1, by omega, by go_num, HB⟩
            case measure => simp [RowKit.intOf] <;> omega
          · have hltI : ¬ (i : Int) < (l.length : Int) := by omega
            go_wp2_with fail
            go_ret
            exact ⟨rfl, HB1.out.trans (HB.out.mono HB1.out.size)⟩
      · have hm : max (i2 : Int) 0 = (i2 : Int) := by omega
        have hd : decide ((0 : Int) ≤ (i2 : Int)) = true := by simp
        rw [hm, hd]
        have RC2 := hide (Rank_c key A cap l i2 wt (HN.out.below HBT.out) (by have := HRL.out; omega))
        have hif : (0 : Int) ≤ (i2 : Int) ∧ (i2 : Int) < (l.length : Int) := by omega
        rw [if_pos hif, show (i2 : Int).toNat = i2 by omega, he2] at RC2
        clear hm hd hif he2 hi2
        go_wp2_with fail
        refine RC2.out.mono ?_
        rintro e wu ⟨rfl, hbu⟩
        have HBU := hide (HBT.out.trans (hbu.mono HBT.out.size))
        have heq : (n == n) = true := by simp
        clear hbu
        go_wp2_with fail
        go_ret
        exact ⟨by simp, HB1.out.trans (HBU.out.mono HB1.out.size)⟩
    · clear hin
      have NC2 := hide (Number_c key A cap l n w5 (HN.out.below HB5.out) (by have := HRL.out; omega))
      go_wp2_with fail
      refine NC2.out.mono ?_
      rintro e wt ⟨z2, rfl, hat2, hbt⟩
      have HBT := hide (HB5.out.trans (hbt.mono HB5.out.size))
      have bt := B1.out.below HBT.out B1.out.lt
      have y0 : wt.cell? ⟨W.heap.size, 0, none⟩ = some (.string key) := bt.cell 0
      have y1 : wt.cell? ⟨W.heap.size, 1, none⟩ = some (.slice A l.length cap) := bt.cell 1
      clear hbt bt NC2
      rcases hat2 with ⟨rfl, hno⟩ | ⟨i2, hi2, rfl, he2, _⟩
      · have HNO := hide hno
        clear hno
        have hm : (max (-1 : Int) 0) = 0 := by omega
        have hd : decide ((0 : Int) ≤ -1) = false := by decide
        rw [hm, hd]
        clear hm hd
        go_wp2_with fail
        have hrl80 := HRL.out
        go_loopw [13] (fun vi wr => ∃ i : Nat, i ≤ l.length ∧ vi = .int .i64 i ∧ Hid (Below W1.heap.size W1 wr)) (fun vi _ => l.length - (RowKit.intOf vi).toNat)
        case atStart => exact ⟨0, Nat.zero_le _, rfl, HBT⟩
        case round =>
          obtain ⟨i, hi, rfl, HB⟩ := hrel
          rename World => wr
          have br := B1.out.below HB.out B1.out.lt
          have y0 : wr.cell? ⟨W.heap.size, 0, none⟩ = some (.string key) := br.cell 0
          have y1 : wr.cell? ⟨W.heap.size, 1, none⟩ = some (.slice A l.length cap) := br.cell 1
          clear br
          by_cases hlt : i < l.length
          · have hltI : (i : Int) < (l.length : Int) := by omega
            obtain ⟨ad, rfl, had, hcd⟩ := HN.out.below HB.out (by omega)
            have hc := hcd i hlt
            have hne := HNO.out i hlt
            obtain ⟨y, hy⟩ : ∃ y, l.getD i 0 = y := ⟨_, rfl⟩
            rw [hy] at hc hne
            have hneB : (y == n) = false := by rw [beq_eq_false_iff_ne]; exact hne
            clear hcd hy hne
            go_wp2_with fail
            go_roundw
            case rel => exact ⟨i + 1, by omega, by go_num, HB⟩
            case measure => simp [RowKit.intOf] <;> omega
          · have hltI : ¬ (i : Int) < (l.length : Int) := by omega
            go_wp2_with fail
            go_ret
            exact ⟨rfl, HB1.out.trans (HB.out.mono HB1.out.size)⟩
      · have hm : max (i2 : Int) 0 = (i2 : Int) := by omega
        have hd : decide ((0 : Int) ≤ (i2 : Int)) = true := by simp
        rw [hm, hd]
        have RC2 := hide (Rank_c key A cap l i2 wt (HN.out.below HBT.out) (by have := HRL.out; omega))
        have hif : (0 : Int) ≤ (i2 : Int) ∧ (i2 : Int) < (l.length : Int) := by omega
        rw [if_pos hif, show (i2 : Int).toNat = i2 by omega, he2] at RC2
        clear hm hd hif he2 hi2
        go_wp2_with fail
        refine RC2.out.mono ?_
        rintro e wu ⟨rfl, hbu⟩
        have HBU := hide (HBT.out.trans (hbu.mono HBT.out.size))
        have heq : (n == n) = true := by simp
        clear hbu
        go_wp2_with fail
        go_ret
        exact ⟨by simp, HB1.out.trans (HBU.out.mono HB1.out.size)⟩
  rw [if_pos hin]
  obtain ⟨hn0, hn1⟩ := hin
  obtain ⟨k, rfl⟩ : ∃ k : Nat, n = (k : Int) := ⟨n.toNat, by omega⟩
  have hk : k < l.length := by omega
  rw [show (k : Int).toNat = k by omega]
  have NC := hide (Number_c key A cap l (l.getD k 0) w5 (HN.out.below HB5.out) (by have := HRL.out; omega))
  have ONE := hide (fun (z : Int) (h : At1 l (l.getD k 0) z) => at_one HM.out.2.2 hk h)
  generalize l.getD k 0 = r at *
  clear hk
  go_wp2_with fail
  refine NC.out.mono ?_
  rintro e w6 ⟨z, rfl, hat, hb6⟩
  have hz := ONE.out z hat
  subst hz
  rw [show max (k : Int) 0 = (k : Int) by omega, show decide ((0 : Int) ≤ (k : Int)) = true by simp]
  have HB6 := hide (HB5.out.trans (hb6.mono HB5.out.size))
  have b6 := B1.out.below HB6.out B1.out.lt
  have q0 : w6.cell? ⟨W.heap.size, 0, none⟩ = some (.string key) := b6.cell 0
  have q1 : w6.cell? ⟨W.heap.size, 1, none⟩ = some (.slice A l.length cap) := b6.cell 1
  have hkk : ((k : Int) != (k : Int)) = false := by simp
  clear hb6 b6 x0 x1 NC hat ONE
  have NC2 := hide (Number_c key A cap l (k : Int) w6 (HN.out.below HB6.out) (by have := HRL.out; omega))
  go_wp2_with fail
  refine NC2.out.mono ?_
  rintro e wt ⟨z2, rfl, hat2, hbt⟩
  have HBT := hide (HB6.out.trans (hbt.mono HB6.out.size))
  have bt := B1.out.below HBT.out B1.out.lt
  have y0 : wt.cell? ⟨W.heap.size, 0, none⟩ = some (.string key) := bt.cell 0
  have y1 : wt.cell? ⟨W.heap.size, 1, none⟩ = some (.slice A l.length cap) := bt.cell 1
  clear hbt bt NC2
  rcases hat2 with ⟨rfl, hno⟩ | ⟨i2, hi2, rfl, he2, _⟩
  · have HNO := hide hno
    clear hno
    have hm : (max (-1 : Int) 0) = 0 := by omega
    have hd : decide ((0 : Int) ≤ -1) = false := by decide
    rw [hm, hd]
    clear hm hd
    go_wp2_with fail
    have hrl80 := HRL.out
    go_loopw [13] (fun vi wr => ∃ i : Nat, i ≤ l.length ∧ vi = .int .i64 i ∧ Hid (Below W1.heap.size W1 wr)) (fun vi _ => l.length - (RowKit.intOf vi).toNat)
    case atStart => exact ⟨0, Nat.zero_le _, rfl, HBT⟩
    case round =>
      obtain ⟨i, hi, rfl, HB⟩ := hrel
      rename World => wr
      have br := B1.out.below HB.out B1.out.lt
      have y0 : wr.cell? ⟨W.heap.size, 0, none⟩ = some (.string key) := br.cell 0
      have y1 : wr.cell? ⟨W.heap.size, 1, none⟩ = some (.slice A l.length cap) := br.cell 1
      clear br
      by_cases hlt : i < l.length
      · have hltI : (i : Int) < (l.length : Int) := by omega
        obtain ⟨ad, rfl, had, hcd⟩ := HN.out.below HB.out (by omega)
        have hc := hcd i hlt
        have hne := HNO.out i hlt
        obtain ⟨y, hy⟩ : ∃ y, l.getD i 0 = y := ⟨_, rfl⟩
        rw [hy] at hc hne
        have hneB : (y == (k : Int)) = false := by rw [beq_eq_false_iff_ne]; exact hne
        clear hcd hy hne
        go_wp2_with fail
        go_roundw
        case rel => exact ⟨i + 1, by omega, by go_num, HB⟩
        case measure => simp [RowKit.intOf] <;> omega
      · have hltI : ¬ (i : Int) < (l.length : Int) := by omega
        go_wp2_with fail
        go_ret
        exact ⟨rfl, HB1.out.trans (HB.out.mono HB1.out.size)⟩
  · have hm : max (i2 : Int) 0 = (i2 : Int) := by omega
    have hd : decide ((0 : Int) ≤ (i2 : Int)) = true := by simp
    rw [hm, hd]
    have RC2 := hide (Rank_c key A cap l i2 wt (HN.out.below HBT.out) (by have := HRL.out; omega))
    have hif : (0 : Int) ≤ (i2 : Int) ∧ (i2 : Int) < (l.length : Int) := by omega
    rw [if_pos hif, show (i2 : Int).toNat = i2 by omega, he2] at RC2
    clear hm hd hif he2 hi2
    go_wp2_with fail
    refine RC2.out.mono ?_
    rintro e wu ⟨rfl, hbu⟩
    have HBU := hide (HBT.out.trans (hbu.mono HBT.out.size))
    have heq : ((k : Int) == (k : Int)) = true := by simp
    clear hbu
    go_wp2_with fail
    go_ret
    exact ⟨by simp, HB1.out.trans (HBU.out.mono HB1.out.size)⟩
end Go.Proofs.YtgiibknfkphkgaaDoor.GroupRoundW
