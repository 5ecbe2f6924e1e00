/- The walk of the statement PathNil: of any point; without conditions. -/
import Derived.Test.YtnnolnlkigbndaaRows
import Derived.Test.YtnnolnlkigbndaaPathD
import Derived.Test.YtnnolnlkigbndaaStructs
import Derived.LoopN
import Derived.Deep.CutRange
namespace Go.Proofs.Ytnnolnlkigbndaa
open Go.Joins Go.ChangeShapes Go.WideShapes Go.RowKit Go.Deep
set_option linter.unusedVariables false
set_option linter.unusedSimpArgs false
namespace Pth
theorem point_of {H : Type} {enc : TypeId × Value → H} {base : Nat} {W : World} {v : Value} {d : DataW H} {p : List MemPlace} (o : Value.okWide Try.prog W .any base 24 v) (r : DataW.Trod enc Try.prog W 0 (fun _ => true) true 24 v d p) :
    ∃ (r c : Int) (A : Option Addr) (l : List Ch) (cap : Nat), v = .agg #[.int .i64 r, .int .i64 c, .slice A l.length cap] ∧ CRow W A l := by
  obtain ⟨cs, rfl, hsz⟩ := okWide_struct Try.underlying24 o
  obtain ⟨l⟩ := cs
  have hC : Try.prog.cellsOf 24 = 3 := by kernel_rfl
  have hC3 : Try.prog.cellsOf 3 = 1 := by kernel_rfl
  have hC4 : Try.prog.cellsOf 22 = 1 := by kernel_rfl
  match l, hsz.trans hC with
  | [k0, k1, k2], _ =>
    obtain ⟨fuel, hf⟩ := r
    obtain ⟨xs, m', _, _, _, hlen, hg⟩ := DataW.trod_struct Try.underlying24 (show DataW.trod enc Try.prog W 0 (fun _ => true) true fuel 24 [k0, k1, k2] = some (d, p) from hf)
    have g0 : DataW.trod enc Try.prog W 0 (fun _ => true) true m' 3 (([k0, k1, k2].drop 0).take (Try.prog.cellsOf 3)) = xs[0]? := hg 0 _ rfl
    have g1 : DataW.trod enc Try.prog W 0 (fun _ => true) true m' 3 (([k0, k1, k2].drop 1).take (Try.prog.cellsOf 3)) = xs[1]? := hg 1 _ rfl
    have g2 : DataW.trod enc Try.prog W 0 (fun _ => true) true m' 22 (([k0, k1, k2].drop 2).take (Try.prog.cellsOf 22)) = xs[2]? := hg 2 _ rfl
    rw [hC3, List.getElem?_eq_getElem (show 0 < xs.length by rw [hlen]; decide)] at g0
    rw [hC3, List.getElem?_eq_getElem (show 1 < xs.length by rw [hlen]; decide)] at g1
    rw [hC4, List.getElem?_eq_getElem (show 2 < xs.length by rw [hlen]; decide)] at g2
    have g0 : DataW.trod enc Try.prog W 0 (fun _ => true) true m' 3 [k0] = some (xs[0]'(by rw [hlen]; decide)) := g0
    have g1 : DataW.trod enc Try.prog W 0 (fun _ => true) true m' 3 [k1] = some (xs[1]'(by rw [hlen]; decide)) := g1
    have g2 : DataW.trod enc Try.prog W 0 (fun _ => true) true m' 22 [k2] = some (xs[2]'(by rw [hlen]; decide)) := g2
    obtain ⟨z0, e0, _, _⟩ := DataW.trod_int Try.underlying3 g0
    obtain ⟨z1, e1, _, _⟩ := DataW.trod_int Try.underlying3 g1
    simp at e0 e1
    subst e0 e1
    obtain ⟨A0, n0, c0, rfl⟩ : ∃ A n c, k2 = .slice A n c := by
      rcases DataW.trod_slice Try.underlying22 g2 with h0 | ⟨a, len, cap, _, _, _, _, h0, _⟩
      · exact ⟨none, 0, 0, by simpa using h0.1⟩
      · exact ⟨some a, len, cap, by simpa using h0⟩
    obtain ⟨A, l, c, hv, hR, _⟩ := CRow.of g2
    exact ⟨z0, z1, A, l, c, by rw [hv], hR⟩
end Pth
end Go.Proofs.Ytnnolnlkigbndaa
namespace Go.Proofs.Ytnnolnlkigbndaa.PathNilW
open Go Go.Joins Go.ChangeShapes Go.WideShapes Go.RowKit Go.Deep Go.Proofs.Ytnnolnlkigbndaa Go.Proofs.Ytnnolnlkigbndaa.Pth
set_option linter.unusedVariables false
set_option linter.unusedSimpArgs false
set_option maxRecDepth 100000 in
set_option maxHeartbeats 8000000 in
theorem walk {H : Type} {enc : TypeId × Value → H} {base : Nat} (W : World) (v0 : Value) (d0 : DataW H) (p0 : List MemPlace) (o0 : Value.okWide Try.prog W .any base 24 v0) (r0 : DataW.Trod enc Try.prog W 0 (fun _ => true) true 24 v0 d0 p0) (off : Bool) :
    Calls Try.prog 3 #[v0, .bool off] W fun e w' => e = .returned (.bool true) ∧ Below W.heap.size W w' := by
  obtain ⟨r, c, A, l, cap, rfl, hr⟩ := point_of o0 r0
  clear o0 r0
  -- the box of the point
  have b1 := Blk.new W 24 #[.int .i64 r, .int .i64 c, .slice A l.length cap]
  have hb1 := (Below.refl W.heap.size W).alloc (Nat.le_refl _) (.cells #[.int .i64 r, .int .i64 c, .slice A l.length cap] 24)
  have hs1 : (W.alloc (.cells #[.int .i64 r, .int .i64 c, .slice A l.length cap] 24)).heap.size = W.heap.size + 1 := by simp
  obtain ⟨W1, hW1⟩ : ∃ W1, W.alloc (.cells #[.int .i64 r, .int .i64 c, .slice A l.length cap] 24) = W1 := ⟨_, rfl⟩
  rw [hW1] at b1 hb1 hs1
  have q2 : W1.cell? ⟨W.heap.size, 2, none⟩ = some (.slice A l.length cap) := b1.cell 2
  by_cases h100 : 100 < l.length
  · have hI : (100 : Int) < (l.length : Int) := by omega
    have HB := hide hb1
    clear h100 hr b1 hb1 hs1
    go_enter Try.func3, Try.ntmps3
    go_wp2_with fail
    go_ret
    exact ⟨rfl, HB.out⟩
  have hI : ¬ (100 : Int) < (l.length : Int) := by omega
  -- the stack that nobody made, and the row of both
  have n2 := Blk.new W1 28 #[.bool false, .slice none 0 0]
  have b2 := b1.alloc (.cells #[.bool false, .slice none 0 0] 28)
  have hb2 := hb1.alloc (by omega) (.cells #[.bool false, .slice none 0 0] 28)
  have hs2 : (W1.alloc (.cells #[.bool false, .slice none 0 0] 28)).heap.size = W.heap.size + 1 + 1 := by rw [← hs1]; simp
  obtain ⟨W2, hW2⟩ : ∃ W2, W1.alloc (.cells #[.bool false, .slice none 0 0] 28) = W2 := ⟨_, rfl⟩
  rw [hW2] at n2 b2 hb2 hs2
  rw [hs1] at n2
  have z3 := Blk.new W2 25 #[.pointer none, .pointer (some ⟨W.heap.size + 1, 0, none⟩)]
  have n3 := n2.alloc (.cells #[.pointer none, .pointer (some ⟨W.heap.size + 1, 0, none⟩)] 25)
  have b3 := b2.alloc (.cells #[.pointer none, .pointer (some ⟨W.heap.size + 1, 0, none⟩)] 25)
  have hb3 := hb2.alloc (by omega) (.cells #[.pointer none, .pointer (some ⟨W.heap.size + 1, 0, none⟩)] 25)
  obtain ⟨W3, hW3⟩ : ∃ W3, W2.alloc (.cells #[.pointer none, .pointer (some ⟨W.heap.size + 1, 0, none⟩)] 25) = W3 := ⟨_, rfl⟩
  rw [hW3] at z3 n3 b3 hb3
  rw [hs2] at z3
  have HR := hide (hr.below hb3)
  have HB3 := hide hb3
  have B3 := hide b3
  have N3 := hide n3
  have Z3 := hide z3
  have H100 := hide (show l.length ≤ 100 by omega)
  clear h100 hr b1 b2 b3 hb1 hb2 hb3 n2 n3 z3
  go_enter Try.func3, Try.ntmps3
  go_wp2_with fail
  clear hW1 hW2 hW3 hs1 hs2 q2
  go_loopw [7] (fun vi wr => ∃ (k : Nat), k ≤ 2 ∧ vi = .int .i64 k ∧ Hid (Below W3.heap.size W3 wr)) (fun vi _ => 2 - (intOf vi).toNat)
  case atStart => exact ⟨0, by omega, rfl, hide (Below.refl _ _)⟩
  case round =>
    obtain ⟨k, hk, rfl, HB⟩ := hrel
    have bk := B3.out.below HB.out B3.out.lt
    have p0 : wr.cell? ⟨W.heap.size, 0, none⟩ = some (.int .i64 r) := bk.cell 0
    have p1 : wr.cell? ⟨W.heap.size, 1, none⟩ = some (.int .i64 c) := bk.cell 1
    have p2 : wr.cell? ⟨W.heap.size, 2, none⟩ = some (.slice A l.length cap) := bk.cell 2
    have HBW := hide (HB3.out.trans (HB.out.mono HB3.out.size))
    have BK := hide bk
    by_cases hk2 : k < 2
    · have hkI : (k : Int) < 2 := by omega
      obtain ⟨t, ht⟩ : ∃ t : Option Addr, (if k = 0 then none else some ⟨W.heap.size + 1, 0, none⟩) = t := ⟨_, rfl⟩
      have zc : wr.cell? ⟨W.heap.size + 1 + 1, k, none⟩ = some (.pointer t) := by
        rw [(Z3.out.below HB.out Z3.out.lt).cell, ← ht]
        match k, hk2 with
        | 0, _ => rfl
        | 1, _ => rfl
      have nm : NM wr t := by
        rw [← ht]
        by_cases h0 : k = 0
        · rw [if_pos h0]; exact .inl rfl
        · rw [if_neg h0]
          have n := N3.out.below HB.out N3.out.lt
          exact .inr ⟨_, rfl, n.lt, n.cell 0⟩
      have PU := hide (push_no t r c (.slice A l.length cap) off wr nm)
      have NMW := hide (fun (w' : World) (hb : Below wr.heap.size wr w') => nm.below hb)
      clear ht nm hk2
      go_wp2_with fail
      refine PU.out.mono ?_
      rintro e w2 ⟨rfl, hb2⟩
      have NX := hide (next_no t w2 (NMW.out w2 hb2))
      have DP := hide (depth_no t w2 (NMW.out w2 hb2))
      have LF := hide (left_no t w2 (NMW.out w2 hb2))
      have ST := hide (steps_no t w2 (NMW.out w2 hb2))
      have HB2 := hide (HB.out.trans (hb2.mono HB.out.size))
      clear hb2
      go_wp2_with fail
      refine NX.out.mono ?_
      rintro e w3 ⟨rfl, rfl⟩
      go_wp2_with fail
      refine DP.out.mono ?_
      rintro e w3 ⟨rfl, rfl⟩
      go_wp2_with fail
      refine LF.out.mono ?_
      rintro e w3 ⟨rfl, rfl⟩
      go_wp2_with fail
      refine ST.out.mono ?_
      rintro e w3 ⟨rfl, rfl⟩
      go_wp2_with fail
      go_roundw
      case rel => exact ⟨k + 1, by omega, by go_num, HB2⟩
      case measure => simp [intOf]; omega
    have hkI : ¬ (k : Int) < 2 := by omega
    have CP := hide (copy_no none wr (.inl rfl))
    have MB := hide (May_b r c A cap l wr (HR.out.below HB.out) (by have := H100.out; omega))
    clear bk
    go_wp2_with fail
    refine CP.out.mono ?_
    rintro e w2 ⟨rfl, rfl⟩
    go_wp2_with fail
    refine MB.out.mono ?_
    rintro e w2 ⟨rfl, hb2⟩
    have CP2 := hide (copy_no none w2 (.inl rfl))
    have bk2 := BK.out.below hb2 BK.out.lt
    have p0 : w2.cell? ⟨W.heap.size, 0, none⟩ = some (.int .i64 r) := bk2.cell 0
    have p1 : w2.cell? ⟨W.heap.size, 1, none⟩ = some (.int .i64 c) := bk2.cell 1
    have p2 : w2.cell? ⟨W.heap.size, 2, none⟩ = some (.slice A l.length cap) := bk2.cell 2
    have HB2 := hide (HBW.out.trans (hb2.mono HBW.out.size))
    have HR2 := hide ((HR.out.below HB.out).below hb2)
    have BK2 := hide bk2
    clear hb2 bk2
    by_cases hm : mayV r c l
    rotate_left
    · rw [decide_eq_false hm]
      clear hm
      go_wp2_with fail
      refine CP2.out.mono ?_
      rintro e w3 ⟨rfl, rfl⟩
      go_wp2_with fail
      go_ret
      exact ⟨rfl, HB2.out⟩
    rw [decide_eq_true hm]
    have HM := hide hm
    clear hm
    by_cases h3 : 3 < l.length
    · have h3I : (3 : Int) < (l.length : Int) := by omega
      clear h3
      go_wp2_with fail
      refine CP2.out.mono ?_
      rintro e w3 ⟨rfl, rfl⟩
      go_wp2_with fail
      go_ret
      exact ⟨rfl, HB2.out⟩
    have h3I : ¬ (3 : Int) < (l.length : Int) := by omega
    have NW := hide (New_a w2)
    clear h3
    go_wp2_with fail
    refine NW.out.mono ?_
    rintro e w4 ⟨rfl, ht4, hb4⟩
    have S4 : Hid (∃ ls, StA w4 w2.heap.size w2.heap.size ls ∧ ls.length = 0) := hide ⟨[], ⟨by simp, ⟨_, ht4, rfl, .inl ⟨rfl, rfl⟩⟩, fun i hi => absurd hi (Nat.not_lt_zero i)⟩, rfl⟩
    have HB4 := hide hb4
    clear ht4 hb4 p0 p1 p2
    go_wp2_with fail
    go_loopw [10] (fun vi ws => ∃ (m : Nat), m ≤ 2000 ∧ vi = .int .i64 m ∧ Hid (∃ ls, StA ws w2.heap.size w2.heap.size ls ∧ ls.length = m) ∧ Hid (Below w2.heap.size w2 ws)) (fun vi _ => 2000 - (intOf vi).toNat)
    case atStart => exact ⟨0, by omega, rfl, S4, HB4⟩
    case round =>
      clear S4 HB4
      obtain ⟨m, hm, rfl, HS, HBs⟩ := hrel
      obtain ⟨ls, hst, hlen⟩ := HS.out
      have bks := BK2.out.below HBs.out BK2.out.lt
      have p0 : wr.cell? ⟨W.heap.size, 0, none⟩ = some (.int .i64 r) := bks.cell 0
      have p1 : wr.cell? ⟨W.heap.size, 1, none⟩ = some (.int .i64 c) := bks.cell 1
      have p2 : wr.cell? ⟨W.heap.size, 2, none⟩ = some (.slice A l.length cap) := bks.cell 2
      have hcr := HR2.out.below HBs.out
      by_cases hm2 : m < 2000
      · have hmI : (m : Int) < 2000 := by omega
        have PY := hide (Push_yes w2.heap.size w2.heap.size ls r c A cap l off wr hst (Nat.le_refl _) hcr (by have := H100.out; omega) HM.out (by omega))
        have HLEN := hide hlen
        clear hst hlen bks hcr HS
        go_wp2_with fail
        refine PY.out.mono ?_
        rintro e w5 ⟨rfl, ⟨g, cap', _, hs5⟩, hb5, _, _⟩
        have S5 : Hid (∃ ls, StA w5 w2.heap.size w2.heap.size ls ∧ ls.length = m + 1) := hide ⟨_, hs5, by rw [List.length_append, HLEN.out]; rfl⟩
        have HB5 := hide (HBs.out.trans hb5)
        clear hs5 hb5
        go_wp2_with fail
        go_roundw
        case rel => exact ⟨m + 1, by omega, by go_num, S5, HB5⟩
        case measure => simp [intOf]; omega
      · have hmI : ¬ (m : Int) < 2000 := by omega
        have hl2 : ls.length = 2000 := by omega
        have PN := hide (Push_no w2.heap.size w2.heap.size ls r c A cap l off wr hst hcr (by have := H100.out; omega) (.inr hl2))
        have DA := hide (fun (w' : World) (hb : Below wr.heap.size wr w') => depth_a w2.heap.size w2.heap.size ls w' (hst.below hb))
        have E : pushE r c l = 4 := by unfold pushE; rw [if_pos HM.out]
        rw [E] at PN
        rw [hl2] at DA
        clear E hst hlen bks hcr HS hl2
        go_wp2_with fail
        refine PN.out.mono ?_
        rintro e w5 ⟨rfl, hb5⟩
        have DA5 := hide (DA.out w5 hb5)
        have HB5 := hide (HB2.out.trans ((HBs.out.trans (hb5.mono HBs.out.size)).mono HB2.out.size))
        clear hb5
        go_wp2_with fail
        refine DA5.out.mono ?_
        rintro e w6 ⟨rfl, rfl⟩
        go_wp2_with fail
        go_ret
        exact ⟨rfl, HB5.out⟩
end Go.Proofs.Ytnnolnlkigbndaa.PathNilW
