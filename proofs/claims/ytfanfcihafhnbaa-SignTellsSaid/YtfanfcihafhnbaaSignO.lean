/- Which of two rows goes first: the reference's answer. -/
import Derived.Test.YtfanfcihafhnbaaRows
import Derived.Test.YtfanfcihafhnbaaSignN
import Derived.Test.YtfanfcihafhnbaaSignC
namespace Go.Proofs.Ytfanfcihafhnbaa
open Go.RowKit
set_option linter.unusedVariables false
set_option linter.unusedSimpArgs false
theorem ahQ_at {a b : List Ch} {z : Int} {t : Bool} (ha : mayL a = true) (hb : mayL b = true) (hc : cmpL a b = z) (hz : decide (z < 0) = t) : ahQ a b = t := by
  unfold ahQ
  rw [ha, hb, hc, hz]
  rfl
set_option maxRecDepth 100000 in
set_option maxHeartbeats 4000000 in
theorem Ahead_b (A B : Option Addr) (ca cb : Nat) (a b : List Ch) (w : World) (ha : CRow w A a) (hb : CRow w B b) (hla : a.length ≤ 1000) (hlb : b.length ≤ 1000) :
    Calls Try.prog 14 #[.slice A a.length ca, .slice B b.length cb] w fun e w' => e = .returned (.bool (ahQ a b)) ∧ Below w.heap.size w w' := by
  have MA := hide (May_b A ca a w ha hla)
  have MB := hide fun (w' : World) (h : Below w.heap.size w w') => May_b B cb b w' (hb.below h) hlb
  have HA := hide ha
  have HC := hide hb
  clear ha hb
  rcases hma : mayL a with _ | _
  · have E : Hid (ahQ a b = false) := hide (by unfold ahQ; rw [hma]; rfl)
    rw [hma] at MA
    clear hma
    go_enter Try.func14, Try.ntmps14
    go_wp2_with fail
    refine MA.out.mono ?_
    rintro e w1 ⟨rfl, hb1⟩
    have HB1 := hide hb1
    clear hb1
    go_wp2_with fail
    go_ret
    exact ⟨by rw [E.out]; rfl, HB1.out⟩
  rcases hmb : mayL b with _ | _
  · have E : Hid (ahQ a b = false) := hide (by unfold ahQ; rw [hma, hmb]; rfl)
    rw [hma] at MA
    rw [hmb] at MB
    clear hma hmb
    go_enter Try.func14, Try.ntmps14
    go_wp2_with fail
    refine MA.out.mono ?_
    rintro e w1 ⟨rfl, hb1⟩
    have HB1 := hide hb1
    clear hb1
    go_wp2_with fail
    refine (MB.out _ HB1.out).mono ?_
    rintro e w2 ⟨rfl, hb2⟩
    have HB2 := hide (HB1.out.trans (hb2.mono HB1.out.size))
    clear hb2
    go_wp2_with fail
    go_ret
    exact ⟨by rw [E.out]; rfl, HB2.out⟩
  have QA := hide (fun (z : Int) (t : Bool) => ahQ_at (z := z) (t := t) hma hmb)
  rw [hma] at MA
  rw [hmb] at MB
  clear hma hmb
  go_enter Try.func14, Try.ntmps14
  go_wp2_with fail
  refine MA.out.mono ?_
  rintro e w1 ⟨rfl, hb1⟩
  have HB1 := hide hb1
  clear hb1
  go_wp2_with fail
  refine (MB.out _ HB1.out).mono ?_
  rintro e w2 ⟨rfl, hb2⟩
  have HB2 := hide (HB1.out.trans (hb2.mono HB1.out.size))
  clear hb2 MA MB
  go_wp2_with fail
  go_loopw [5] (fun vi wr => ∃ i : Nat, i ≤ a.length ∧ i ≤ b.length ∧ vi = .int .i64 i ∧ Hid (cmpL (a.drop i) (b.drop i) = cmpL a b) ∧ Hid (Below w.heap.size w wr)) (fun vi _ => a.length - (intOf vi).toNat)
  case atStart => exact ⟨0, Nat.zero_le _, Nat.zero_le _, rfl, hide rfl, HB2⟩
  case round =>
    obtain ⟨i, hi, hib, rfl, HN, HB⟩ := hrel
    by_cases hlt : i < a.length
    · obtain ⟨p, rfl, hp, hok, h0, h1, h2, h3, h4⟩ := (HA.out.below HB.out).at_ hlt
      have ltI : (i : Int) < (a.length : Int) := by omega
      by_cases hlb2 : i < b.length
      · obtain ⟨q, rfl, hq, hok', g0, g1, g2, g3, g4⟩ := (HC.out.below HB.out).at_ hlb2
        have ltJ : (i : Int) < (b.length : Int) := by omega
        have HS := hide (cmpL_both hlt hlb2)
        have AZ := hide (ah_zero (x := a[i]) (y := b[i]))
        have AT := hide (fun (k : Nat) => ah_at (x := a[i]) (y := b[i]) (k := k))
        clear hok hok'
        have RX := hide (row_b a[i])
        have RY := hide (row_b b[i])
        generalize ahC a[i] b[i] = z at *
        generalize a[i] = x at *
        generalize b[i] = y at *
        have GX : Hid (rowG x = rowG x) := hide rfl
        have hpb : (p.add (i * 5)).block < wr.heap.size := by rw [block_of_add]; exact hp
        have hqb : (q.add (i * 5)).block < wr.heap.size := by rw [block_of_add]; exact hq
        unfold Ch.val at RX RY
        have HP := hide (show wr.cell? (p.add (i * 5)) = some (.int .i64 x.r) ∧ wr.cell? ⟨(p.add (i * 5)).block, (p.add (i * 5)).off + 1, none⟩ = some (.int .i64 x.c) ∧ wr.cell? ⟨(p.add (i * 5)).block, (p.add (i * 5)).off + 2, none⟩ = some (.int .i64 x.f) ∧ wr.cell? ⟨(p.add (i * 5)).block, (p.add (i * 5)).off + 3, none⟩ = some (.int .i64 x.s) ∧ wr.cell? ⟨(p.add (i * 5)).block, (p.add (i * 5)).off + 4, none⟩ = some (.int .i64 x.v) from ⟨h0, h1, h2, h3, h4⟩)
        have HQ := hide (show wr.cell? (q.add (i * 5)) = some (.int .i64 y.r) ∧ wr.cell? ⟨(q.add (i * 5)).block, (q.add (i * 5)).off + 1, none⟩ = some (.int .i64 y.c) ∧ wr.cell? ⟨(q.add (i * 5)).block, (q.add (i * 5)).off + 2, none⟩ = some (.int .i64 y.f) ∧ wr.cell? ⟨(q.add (i * 5)).block, (q.add (i * 5)).off + 3, none⟩ = some (.int .i64 y.s) ∧ wr.cell? ⟨(q.add (i * 5)).block, (q.add (i * 5)).off + 4, none⟩ = some (.int .i64 y.v) from ⟨g0, g1, g2, g3, g4⟩)
        clear h0 h1 h2 h3 h4 g0 g1 g2 g3 g4 GX
        go_wp2_with fail
        let R : Nat → Value → World → Prop := fun t u w1 => match t with
          | 29 => u = .slice (some p) a.length ca
          | 30 => u = .int .i64 i
          | 31 => u = .pointer (some (p.add (i * 5)))
          | 32 => u = .agg #[.int .i64 x.r, .int .i64 x.c, .int .i64 x.f, .int .i64 x.s, .int .i64 x.v]
          | 33 => ∃ g, u = .slice (some ⟨g, 0, none⟩) 5 5 ∧ RowAt w1 g x
          | 34 => u = .slice (some q) b.length cb
          | 35 => u = .int .i64 i
          | 36 => u = .pointer (some (q.add (i * 5)))
          | 37 => u = .agg #[.int .i64 y.r, .int .i64 y.c, .int .i64 y.f, .int .i64 y.s, .int .i64 y.v]
          | 38 => ∃ g, u = .slice (some ⟨g, 0, none⟩) 5 5 ∧ RowAt w1 g y
          | 6 => ∃ g, u = .slice (some ⟨g, 0, none⟩) 5 5 ∧ RowAt w1 g x
          | 7 => ∃ g, u = .slice (some ⟨g, 0, none⟩) 5 5 ∧ RowAt w1 g y
          | _ => True
        refine wp_region_rel R (by kernel_rfl) (by kernel_rfl) (by kernel_rfl) ?mono ?step ?fin
        case mono =>
          intro t u w1 w2 h hb
          match t with
          | 33 | 38 | 6 | 7 =>
            obtain ⟨g, h1, h2⟩ := h
            exact ⟨g, h1, h2.below hb⟩
          | 0 | 1 | 2 | 3 | 4 | 5 | 8 | 9 | 10 | 11 | 12 | 13 | 14 | 15 | 16 | 17 | 18 | 19 | 20 | 21 | 22 | 23 | 24 | 25 | 26 | 27 | 28 | 29 | 30 | 31 | 32 | 34 | 35 | 36 | 37 | _ + 39 => exact h
        case fin =>
          intro ff w3 hb hr
          obtain ⟨gx, e6, rx⟩ : ∃ g, ff 6 = .slice (some ⟨g, 0, none⟩) 5 5 ∧ RowAt w3 g x := hr 6 (by decide)
          obtain ⟨gy, e7, ry⟩ : ∃ g, ff 7 = .slice (some ⟨g, 0, none⟩) 5 5 ∧ RowAt w3 g y := hr 7 (by decide)
          have HX := hide rx
          have HY := hide ry
          have HB3 := hide (HB.out.trans (hb.mono HB.out.size))
          clear hr hb rx ry HP HQ RX RY
          simp only [putAll, slotsOf, List.filterMap_cons, List.filterMap_nil, List.foldl_cons, List.foldl_nil, Act.put, e6, e7]
          simp only [List.setIfInBounds_toArray, List.set_cons_succ, List.set_cons_zero]
          generalize ff 29 = v29
          generalize ff 30 = v30
          generalize ff 31 = v31
          generalize ff 32 = v32
          generalize ff 33 = v33
          generalize ff 34 = v34
          generalize ff 35 = v35
          generalize ff 36 = v36
          generalize ff 37 = v37
          generalize ff 38 = v38
          clear e6 e7
          clear R
          clear ff
          go_wp2_with fail
          go_loopw [8] (fun vi w4 => ∃ k : Nat, k ≤ 5 ∧ vi = .int .i64 k ∧ Hid (∀ j, j < k → rowG x j = rowG y j) ∧ Hid (Below w3.heap.size w3 w4)) (fun vi _ => 5 - (intOf vi).toNat)
          case atStart => exact ⟨0, Nat.zero_le _, rfl, hide (fun j hj => absurd hj (Nat.not_lt_zero j)), hide (Below.refl _ _)⟩
          case round =>
            obtain ⟨k, hk, rfl, HK, HB4⟩ := hrel
            by_cases hk5 : k < 5
            · have ltK : (k : Int) < 5 := by omega
              have cx := (HX.out.below HB4.out).2 k hk5
              have cy := (HY.out.below HB4.out).2 k hk5
              have AT2 := hide (AT.out k hk5 HK.out)
              have HK2 : Hid (rowG x k = rowG y k → ∀ j, j < k + 1 → rowG x j = rowG y j) := hide fun hx j hj => by
                rcases Nat.lt_or_ge j k with h5 | h5
                · exact HK.out j h5
                · obtain rfl : j = k := by omega
                  exact hx
              generalize rowG x k = u1 at *
              generalize rowG y k = u2 at *
              by_cases hu : u1 = u2
              · subst hu
                have HK3 := hide (HK2.out rfl)
                clear HK2 AT2
                go_wp2_with fail
                go_quiet (fail)
                go_wp2_with fail
                go_roundw
                case rel => exact ⟨k + 1, by omega, by first | trivial | go_num, HK3, hide (below_drewN HB4.out _)⟩
                case measure => simp [intOf]; omega
              · have hne : (u1 == u2) = false := beq_false_of_ne hu
                obtain ⟨hz, hd⟩ := AT2.out hu
                have E := hide (QA.out z _ (HN.out.symm.trans (HS.out.trans (if_neg hz))) hd)
                have HB5 := hide (HB3.out.trans (HB4.out.mono HB3.out.size))
                clear HK2 AT2 hz hd
                go_wp2_with fail
                go_quiet (fail)
                go_wp2_with fail
                go_quiet (fail)
                go_wp2_with fail
                go_ret
                exact ⟨by rw [E.out]; rfl, below_drewN (below_drewN HB5.out _) _⟩
            · obtain rfl : k = 5 := by omega
              have hz := AZ.out HK.out
              have HN2 : Hid (cmpL (a.drop (i + 1)) (b.drop (i + 1)) = cmpL a b) := hide ((HS.out.trans (if_pos hz)).symm.trans HN.out)
              have HB5 := hide (HB3.out.trans (HB4.out.mono HB3.out.size))
              clear hz HS
              go_wp2_with fail
              go_roundw
              case rel => exact ⟨i + 1, by omega, by omega, by first | trivial | go_num, HN2, HB5⟩
              case measure => simp [intOf]; omega
        case step =>
          intro o ho
          simp only [List.mem_cons, List.not_mem_nil, or_false] at ho
          rcases ho with rfl | rfl | rfl | rfl | rfl | rfl | rfl | rfl | rfl | rfl | rfl | rfl
          · intro a1 w1 hb hs hr
            have e0 : a1.tmps.getD 0 undef = .slice (some p) a.length ca := hs 0 (by decide)
            rw [Array.getD_eq_getD_getElem?] at e0
            unfold Oper.wp
            simp only [execOp, Act.eval, Array.getD_eq_getD_getElem?, e0]
            go_simp
            exact ⟨_, rfl, rfl, Below.refl _ _⟩
          · intro a1 w1 hb hs hr
            have e5 : a1.tmps.getD 5 undef = .int .i64 i := hs 5 (by decide)
            rw [Array.getD_eq_getD_getElem?] at e5
            unfold Oper.wp
            simp only [execOp, Act.eval, Array.getD_eq_getD_getElem?, e5]
            go_simp
            exact ⟨_, rfl, rfl, Below.refl _ _⟩
          · intro a1 w1 hb hs hr
            have e29 : a1.tmps.getD 29 undef = .slice (some p) a.length ca := hr 29 (by decide) (by apply Array.mem_toList_iff.1; repeat (first | exact List.Mem.head _ | apply List.Mem.tail))
            have e30 : a1.tmps.getD 30 undef = .int .i64 i := hr 30 (by decide) (by apply Array.mem_toList_iff.1; repeat (first | exact List.Mem.head _ | apply List.Mem.tail))
            rw [Array.getD_eq_getD_getElem?] at e29
            rw [Array.getD_eq_getD_getElem?] at e30
            unfold Oper.wp
            simp only [execOp, Act.eval, Array.getD_eq_getD_getElem?, e29, e30]
            go_simp
            exact ⟨_, rfl, rfl, Below.refl _ _⟩
          · intro a1 w1 hb hs hr
            have e31 : a1.tmps.getD 31 undef = .pointer (some (p.add (i * 5))) := hr 31 (by decide) (by apply Array.mem_toList_iff.1; repeat (first | exact List.Mem.head _ | apply List.Mem.tail))
            obtain ⟨k0, k1, k2, k3, k4⟩ := HP.out
            have c0 := (hb.cell hpb).trans k0
            have c1 := (hb.cell (p := ⟨(p.add (i * 5)).block, (p.add (i * 5)).off + 1, none⟩) hpb).trans k1
            have c2 := (hb.cell (p := ⟨(p.add (i * 5)).block, (p.add (i * 5)).off + 2, none⟩) hpb).trans k2
            have c3 := (hb.cell (p := ⟨(p.add (i * 5)).block, (p.add (i * 5)).off + 3, none⟩) hpb).trans k3
            have c4 := (hb.cell (p := ⟨(p.add (i * 5)).block, (p.add (i * 5)).off + 4, none⟩) hpb).trans k4
            rw [Array.getD_eq_getD_getElem?] at e31
            unfold Oper.wp
            simp only [execOp, Act.eval, Array.getD_eq_getD_getElem?, e31]
            go_simp
            exact ⟨_, rfl, rfl, Below.refl _ _⟩
          · intro a1 w1 hb hs hr
            have e32 : a1.tmps.getD 32 undef = .agg #[.int .i64 x.r, .int .i64 x.c, .int .i64 x.f, .int .i64 x.s, .int .i64 x.v] := hr 32 (by decide) (by apply Array.mem_toList_iff.1; repeat (first | exact List.Mem.head _ | apply List.Mem.tail))
            rw [Array.getD_eq_getD_getElem?] at e32
            unfold Oper.wp
            simp only [execOp, Act.eval, Array.getD_eq_getD_getElem?, e32]
            go_simp
            refine (RX.out _).mono ?_
            rintro e w' ⟨⟨g, rfl, hg⟩, hb'⟩
            exact ⟨_, rfl, ⟨g, rfl, hg⟩, hb'⟩
          · intro a1 w1 hb hs hr
            have e1 : a1.tmps.getD 1 undef = .slice (some q) b.length cb := hs 1 (by decide)
            rw [Array.getD_eq_getD_getElem?] at e1
            unfold Oper.wp
            simp only [execOp, Act.eval, Array.getD_eq_getD_getElem?, e1]
            go_simp
            exact ⟨_, rfl, rfl, Below.refl _ _⟩
          · intro a1 w1 hb hs hr
            have e5 : a1.tmps.getD 5 undef = .int .i64 i := hs 5 (by decide)
            rw [Array.getD_eq_getD_getElem?] at e5
            unfold Oper.wp
            simp only [execOp, Act.eval, Array.getD_eq_getD_getElem?, e5]
            go_simp
            exact ⟨_, rfl, rfl, Below.refl _ _⟩
          · intro a1 w1 hb hs hr
            have e34 : a1.tmps.getD 34 undef = .slice (some q) b.length cb := hr 34 (by decide) (by apply Array.mem_toList_iff.1; repeat (first | exact List.Mem.head _ | apply List.Mem.tail))
            have e35 : a1.tmps.getD 35 undef = .int .i64 i := hr 35 (by decide) (by apply Array.mem_toList_iff.1; repeat (first | exact List.Mem.head _ | apply List.Mem.tail))
            rw [Array.getD_eq_getD_getElem?] at e34
            rw [Array.getD_eq_getD_getElem?] at e35
            unfold Oper.wp
            simp only [execOp, Act.eval, Array.getD_eq_getD_getElem?, e34, e35]
            go_simp
            exact ⟨_, rfl, rfl, Below.refl _ _⟩
          · intro a1 w1 hb hs hr
            have e36 : a1.tmps.getD 36 undef = .pointer (some (q.add (i * 5))) := hr 36 (by decide) (by apply Array.mem_toList_iff.1; repeat (first | exact List.Mem.head _ | apply List.Mem.tail))
            obtain ⟨k0, k1, k2, k3, k4⟩ := HQ.out
            have c0 := (hb.cell hqb).trans k0
            have c1 := (hb.cell (p := ⟨(q.add (i * 5)).block, (q.add (i * 5)).off + 1, none⟩) hqb).trans k1
            have c2 := (hb.cell (p := ⟨(q.add (i * 5)).block, (q.add (i * 5)).off + 2, none⟩) hqb).trans k2
            have c3 := (hb.cell (p := ⟨(q.add (i * 5)).block, (q.add (i * 5)).off + 3, none⟩) hqb).trans k3
            have c4 := (hb.cell (p := ⟨(q.add (i * 5)).block, (q.add (i * 5)).off + 4, none⟩) hqb).trans k4
            rw [Array.getD_eq_getD_getElem?] at e36
            unfold Oper.wp
            simp only [execOp, Act.eval, Array.getD_eq_getD_getElem?, e36]
            go_simp
            exact ⟨_, rfl, rfl, Below.refl _ _⟩
          · intro a1 w1 hb hs hr
            have e37 : a1.tmps.getD 37 undef = .agg #[.int .i64 y.r, .int .i64 y.c, .int .i64 y.f, .int .i64 y.s, .int .i64 y.v] := hr 37 (by decide) (by apply Array.mem_toList_iff.1; repeat (first | exact List.Mem.head _ | apply List.Mem.tail))
            rw [Array.getD_eq_getD_getElem?] at e37
            unfold Oper.wp
            simp only [execOp, Act.eval, Array.getD_eq_getD_getElem?, e37]
            go_simp
            refine (RY.out _).mono ?_
            rintro e w' ⟨⟨g, rfl, hg⟩, hb'⟩
            exact ⟨_, rfl, ⟨g, rfl, hg⟩, hb'⟩
          · intro a1 w1 hb hs hr
            have e33 : ∃ g, a1.tmps.getD 33 undef = .slice (some ⟨g, 0, none⟩) 5 5 ∧ RowAt w1 g x := hr 33 (by decide) (by apply Array.mem_toList_iff.1; repeat (first | exact List.Mem.head _ | apply List.Mem.tail))
            obtain ⟨g, e33', hg⟩ := e33
            rw [Array.getD_eq_getD_getElem?] at e33'
            unfold Oper.wp
            simp only [execOp, Act.eval, Array.getD_eq_getD_getElem?, e33']
            go_simp
            exact ⟨_, rfl, ⟨g, rfl, hg⟩, Below.refl _ _⟩
          · intro a1 w1 hb hs hr
            have e38 : ∃ g, a1.tmps.getD 38 undef = .slice (some ⟨g, 0, none⟩) 5 5 ∧ RowAt w1 g y := hr 38 (by decide) (by apply Array.mem_toList_iff.1; repeat (first | exact List.Mem.head _ | apply List.Mem.tail))
            obtain ⟨g, e38', hg⟩ := e38
            rw [Array.getD_eq_getD_getElem?] at e38'
            unfold Oper.wp
            simp only [execOp, Act.eval, Array.getD_eq_getD_getElem?, e38']
            go_simp
            exact ⟨_, rfl, ⟨g, rfl, hg⟩, Below.refl _ _⟩
      · have ltJ : ¬ (i : Int) < (b.length : Int) := by omega
        have E := hide (QA.out 1 false (HN.out.symm.trans (cmpL_over hlt (by omega))) rfl)
        have ltS : ¬ (a.length : Int) < (b.length : Int) := by omega
        clear hok h0 h1 h2 h3 h4
        go_wp2_with fail
        go_ret
        exact ⟨by rw [E.out]; rfl, HB.out⟩
    · obtain rfl : i = a.length := by omega
      have ltI : ¬ (a.length : Int) < (a.length : Int) := by omega
      by_cases hs : a.length < b.length
      · have E := hide (QA.out (-1) true (HN.out.symm.trans (cmpL_short (Nat.le_refl _) hs)) rfl)
        have ltS : (a.length : Int) < (b.length : Int) := by omega
        go_wp2_with fail
        go_ret
        exact ⟨by rw [E.out]; rfl, HB.out⟩
      · have E := hide (QA.out 0 false (HN.out.symm.trans (cmpL_end (Nat.le_refl _) (by omega))) rfl)
        have ltS : ¬ (a.length : Int) < (b.length : Int) := by omega
        go_wp2_with fail
        go_ret
        exact ⟨by rw [E.out]; rfl, HB.out⟩
end Go.Proofs.Ytfanfcihafhnbaa
