/- The walk of the statement RequestGrows: of whatever acts; without conditions. -/
import Derived.Test.YtiggmieoldjhnaaRows
import Derived.Test.YtiggmieoldjhnaaReqO
import Derived.Deep.CutBlock
namespace Go.Proofs.Ytiggmieoldjhnaa.RequestGrowsW
open Go Go.RowKit Go.Proofs.Ytiggmieoldjhnaa Go.Proofs.Ytiggmieoldjhnaa.Grp Go.Proofs.Ytiggmieoldjhnaa.Req
set_option linter.unusedVariables false
set_option linter.unusedSimpArgs false
theorem box6 (w : World) (t : TypeId) (d0 d1 d2 d3 d4 d5 c0 c1 c2 c3 c4 c5 : Value) :
    Blk (((((((w.alloc (.cells #[d0, d1, d2, d3, d4, d5] t)).setCell ⟨w.heap.size, 0, none⟩ c0).setCell ⟨w.heap.size, 1, none⟩ c1).setCell ⟨w.heap.size, 2, none⟩ c2).setCell ⟨w.heap.size, 3, none⟩ c3).setCell ⟨w.heap.size, 4, none⟩ c4).setCell ⟨w.heap.size, 5, none⟩ c5) w.heap.size t #[c0, c1, c2, c3, c4, c5] ∧
    Below w.heap.size w (((((((w.alloc (.cells #[d0, d1, d2, d3, d4, d5] t)).setCell ⟨w.heap.size, 0, none⟩ c0).setCell ⟨w.heap.size, 1, none⟩ c1).setCell ⟨w.heap.size, 2, none⟩ c2).setCell ⟨w.heap.size, 3, none⟩ c3).setCell ⟨w.heap.size, 4, none⟩ c4).setCell ⟨w.heap.size, 5, none⟩ c5) :=
  ⟨((((((Blk.new w t #[d0, d1, d2, d3, d4, d5]).set_ 0 c0).set_ 1 c1).set_ 2 c2).set_ 3 c3).set_ 4 c4).set_ 5 c5,
   (((((((Below.refl _ w).alloc (Nat.le_refl _) _).setCell (p := ⟨w.heap.size, 0, none⟩) (Nat.le_refl _) _).setCell (p := ⟨w.heap.size, 1, none⟩) (Nat.le_refl _) _).setCell (p := ⟨w.heap.size, 2, none⟩) (Nat.le_refl _) _).setCell (p := ⟨w.heap.size, 3, none⟩) (Nat.le_refl _) _).setCell (p := ⟨w.heap.size, 4, none⟩) (Nat.le_refl _) _).setCell (p := ⟨w.heap.size, 5, none⟩) (Nat.le_refl _) _⟩
theorem rem4 {k : Int} (h0 : 0 ≤ k) : Int.tmod k 4 = 0 ∨ Int.tmod k 4 = 1 ∨ Int.tmod k 4 = 2 ∨ Int.tmod k 4 = 3 := by
  rw [Int.tmod_eq_emod_of_nonneg h0]
  omega
/-- What stands in a round: the table, and what Which told of it last. -/
def St (W wr : World) (T : Nat) (rs : List Rq) (row : List Int) (A : Option Addr) (c : Nat) : Prop :=
  PR wr T W.heap.size rs ∧ W.heap.size ≤ T ∧ wr.ownsRow W.heap.size 3 1 (.slice A (nowL rs row).length c) (nowL rs row).length (ints (nowL rs row)) ∧ Below W.heap.size W wr
theorem St.below {W wr w' : World} {T : Nat} {rs : List Rq} {row : List Int} {A : Option Addr} {c : Nat} (h : St W wr T rs row A c) (hb : Below wr.heap.size wr w') : St W w' T rs row A c :=
  ⟨h.1.below hb, h.2.1, own_belowR h.2.2.1 hb, h.2.2.2.trans (hb.mono h.2.2.2.size)⟩
/-- What stands behind the act: the table by other requests, of which no fewer of the row are so; the elder row. -/
def Mid (W wr : World) (T : Nat) (rs : List Rq) (row : List Int) (A : Option Addr) (c : Nat) : Prop :=
  ∃ rs', (∀ x ∈ row, okp rs x → okp rs' x) ∧ PR wr T W.heap.size rs' ∧ wr.ownsRow W.heap.size 3 1 (.slice A (nowL rs row).length c) (nowL rs row).length (ints (nowL rs row)) ∧ Below W.heap.size W wr
theorem isrow_n {w : World} {R : Option Addr} {len cap : Nat} {zs : List Int} (h : IsRow .i64 w R len cap zs) : ∃ row : List Int, row.length = len ∧ NRow w R row := by
  rcases h with ⟨rfl, rfl, rfl, rfl⟩ | ⟨x, rfl, h1, _, h3, h4, _⟩
  · exact ⟨[], rfl, fun h => absurd h (Nat.lt_irrefl 0)⟩
  · have hl : (zs.take len).length = len := by rw [List.length_take]; omega
    refine ⟨zs.take len, hl, fun h0 => ⟨x, rfl, ?_, fun j hj => ?_⟩⟩
    · rw [hl] at h0
      have := block_lt_of_cell (h4 0 (by omega))
      rwa [block_of_add] at this
    · rw [hl] at hj
      rw [Grp.getD_take zs len j hj]
      exact h4 j (by omega)
set_option maxRecDepth 100000 in
set_option maxHeartbeats 16000000 in
theorem walk {H : Type} {enc : TypeId × Value → H} {base : Nat} (W : World) (v0 : Value) (d0 : DataW H) (p0 : List MemPlace) (o0 : Value.okWide Try.prog W .any base 22 v0) (r0 : DataW.Trod enc Try.prog W 0 (fun _ => true) true 22 v0 d0 p0) (R : Option Addr) (len1 rcap : Nat) (z1 : List Int) (wr1 : IsRow .i64 W R len1 rcap z1) :
    Calls Try.prog 4 #[v0, .slice R len1 rcap] W fun e w' => e = .returned (.bool true) ∧ Below W.heap.size W w' := by
  obtain ⟨A, n, cap, F, rfl, hn, hlow, hacts⟩ := acts_of o0 r0 (fun _ => rfl)
  obtain ⟨row, rfl, hrow⟩ := isrow_n wr1
  clear o0 r0 wr1
  have AW := hide (awake_c W)
  have HA := hide hacts
  have HLO := hide hlow
  have HRW := hide hrow
  clear hacts hlow hrow
  go_enter Try.func4, Try.ntmps4
  go_wp2_with fail
  refine AW.out.mono ?_
  rintro e w1 ⟨rfl, hb1⟩
  have GR := hide (Great_a A n cap F w1 (HA.out.below hb1) hn)
  have HB1 := hide hb1
  clear hb1 AW
  go_wp2_with fail
  refine GR.out.mono ?_
  rintro e w' ⟨rfl | ⟨rfl, hn6, hF⟩, rfl⟩
  · go_wp2_with fail
    go_ret
    exact ⟨rfl, HB1.out⟩
  by_cases hr20 : 20 < row.length
  · have hr20I : (20 : Int) < (row.length : Int) := by omega
    go_wp2_with fail
    go_ret
    exact ⟨rfl, HB1.out⟩
  have hr20I : ¬ (20 : Int) < (row.length : Int) := by omega
  have HF := hide hF
  have NC := hide (New_c w1)
  clear hF GR hn
  go_wp2_with fail
  refine NC.out.mono ?_
  rintro e w2 ⟨rfl, hp2, hb2⟩
  have hs1 := HB1.out.size
  have hPB : PR w2 w1.heap.size W.heap.size [] := by
    obtain ⟨h0, h1, O, oc, h2, h3⟩ := hp2
    exact ⟨hs1, h1, O, oc, h2, own_more h3 hs1⟩
  have S2 := hide (show St W w2 w1.heap.size [] row none 0 from ⟨hPB, hs1, by rw [now_none]; exact ⟨rfl, .inl ⟨rfl, rfl⟩⟩, HB1.out.trans (hb2.mono hs1)⟩)
  obtain ⟨T, hT⟩ : ∃ T, w1.heap.size = T := ⟨_, rfl⟩
  rw [hT] at S2 ⊢
  clear hp2 hb2 hPB NC HB1 hs1 hT
  go_wp2_with fail
  go_loopw [6, 7] (fun vl vi wr => ∃ i : Nat, i ≤ n ∧ vi = .int .i64 i ∧ ∃ (rs : List Rq) (AL : Option Addr) (c : Nat), vl = .slice AL (nowL rs row).length c ∧ Hid (St W wr T rs row AL c)) (fun vl vi _ => n - (RowKit.intOf vi).toNat)
  case atStart => exact ⟨0, Nat.zero_le _, rfl, [], none, 0, by rw [now_none]; rfl, S2⟩
  case round =>
    obtain ⟨i, hi, rfl, rs, AL, c, rfl, HS⟩ := hrel
    rename World => wr
    clear S2
    by_cases hlt : i < n
    rotate_left
    · have hltI : ¬ (i : Int) < (n : Int) := by omega
      go_wp2_with fail
      go_ret
      exact ⟨rfl, HS.out.2.2.2⟩
    have hltI : (i : Int) < (n : Int) := by omega
    have hBw := HS.out.2.2.2
    obtain ⟨a, rfl, c0, c1, c2, c3, c4, c5, hxr, k0, k1, halt⟩ := HA.out i hlt
    have c0 := (hBw.cell halt).trans c0
    have c1 := (hBw.cell (p := ⟨_, _, none⟩) halt).trans c1
    have c2 := (hBw.cell (p := ⟨_, _, none⟩) halt).trans c2
    have c3 := (hBw.cell (p := ⟨_, _, none⟩) halt).trans c3
    have c4 := (hBw.cell (p := ⟨_, _, none⟩) halt).trans c4
    have c5 := (hBw.cell (p := ⟨_, _, none⟩) halt).trans c5
    have HXL := hide (HF.out i hlt)
    have HLW := hide (HLO.out i hlt)
    generalize F i = x at *
    obtain ⟨kind, yes, xA, xcap, xl, xv, xp, xt⟩ := x
    simp only at c0 c1 c2 c3 c4 c5 hxr k0 k1
    have HXR : Hid (NRow W xA xl) := hide hxr
    have HXL : Hid (xl.length ≤ 20) := HXL
    have HLW : Hid (xl.length ≤ xcap ∧ (0 < xl.length → ∀ a, xA = some a → a.block < W.heap.size)) := HLW
    obtain ⟨hbk, hbx⟩ := box6 wr 29 (.int .u8 0) (.bool false) (.slice none 0 0) (.int .i64 0) (.int .i64 0) (.int .i64 0) (.int .u8 kind) (.bool yes) (.slice xA xl.length xcap) (.int .i64 xv) (.int .i64 xp) (.int .i64 xt)
    have bz := Blk.new wr 29 #[.int .u8 0, .bool false, .slice none 0 0, .int .i64 0, .int .i64 0, .int .i64 0]
    obtain ⟨wa, hwa⟩ : ∃ x, wr.alloc (.cells #[.int .u8 0, .bool false, .slice none 0 0, .int .i64 0, .int .i64 0, .int .i64 0] 29) = x := ⟨_, rfl⟩
    rw [hwa] at hbk hbx bz
    have z0 : wa.cell? ⟨wr.heap.size, 0, none⟩ = some (.int .u8 0) := bz.cell 0
    have z1 : wa.cell? ⟨wr.heap.size, 1, none⟩ = some (.bool false) := bz.cell 1
    have z2 : wa.cell? ⟨wr.heap.size, 2, none⟩ = some (.slice none 0 0) := bz.cell 2
    have z3 : wa.cell? ⟨wr.heap.size, 3, none⟩ = some (.int .i64 0) := bz.cell 3
    have z4 : wa.cell? ⟨wr.heap.size, 4, none⟩ = some (.int .i64 0) := bz.cell 4
    have z5 : wa.cell? ⟨wr.heap.size, 5, none⟩ = some (.int .i64 0) := bz.cell 5
    have f0 := bz.frozen 0
    have f1 := bz.frozen 1
    have f2 := bz.frozen 2
    have f3 := bz.frozen 3
    have f4 := bz.frozen 4
    have f5 := bz.frozen 5
    obtain ⟨wb, hwb⟩ : ∃ x, (((((wa.setCell ⟨wr.heap.size, 0, none⟩ (.int .u8 kind)).setCell ⟨wr.heap.size, 1, none⟩ (.bool yes)).setCell ⟨wr.heap.size, 2, none⟩ (.slice xA xl.length xcap)).setCell ⟨wr.heap.size, 3, none⟩ (.int .i64 xv)).setCell ⟨wr.heap.size, 4, none⟩ (.int .i64 xp)).setCell ⟨wr.heap.size, 5, none⟩ (.int .i64 xt) = x := ⟨_, rfl⟩
    rw [hwb] at hbk hbx
    have y0 : wb.cell? ⟨wr.heap.size, 0, none⟩ = some (.int .u8 kind) := hbk.cell 0
    have y1 : wb.cell? ⟨wr.heap.size, 1, none⟩ = some (.bool yes) := hbk.cell 1
    have y2 : wb.cell? ⟨wr.heap.size, 2, none⟩ = some (.slice xA xl.length xcap) := hbk.cell 2
    have BX := hide hbk
    have HSb := hide (HS.out.below hbx)
    have hwl := hBw.size
    have hTw := HS.out.2.1
    obtain ⟨X, hX⟩ : ∃ X, wr.heap.size = X := ⟨_, rfl⟩
    have hWX : W.heap.size ≤ X := by omega
    clear hbk hbx bz hxr halt HS hBw hwl
    clear hX
    go_upto_block 2 with (fail)
    go_cut [] from 21 to 115 (fun wx => Mid W wx T rs row AL c)
    case first =>
      rcases (show kind % 4 = 0 ∨ kind % 4 = 1 ∨ kind % 4 = 2 ∨ kind % 4 = 3 by omega) with hm | hm | hm | hm
      · -- an Add
        have y1 : wb.cell? ⟨wr.heap.size, 1, none⟩ = some (.bool yes) := BX.out.cell 1
        have y3 : wb.cell? ⟨wr.heap.size, 3, none⟩ = some (.int .i64 xv) := BX.out.cell 3
        have hTT := HSb.out.1.lt
        by_cases hfull : rs.length = 256
        · have AC := hide (fun b => Add_full T W.heap.size rs yes b wb HSb.out.1 hfull)
          clear hfull
          go_wp2_with fail
          refine (AC.out _).mono ?_
          rintro e wx ⟨rfl, rfl⟩
          go_wp2_with fail
          go_meet
          exact ⟨rs, fun _ _ h => h, HSb.out.1, HSb.out.2.2.1, HSb.out.2.2.2⟩
        · have hlt2 : rs.length < 256 := by have := HSb.out.1.2.1; omega
          have AC := hide (fun b => Add_yes T W.heap.size rs yes b wb HSb.out.1 hlt2)
          clear hfull hlt2
          go_wp2_with fail
          refine (AC.out _).mono ?_
          rintro e wx ⟨rfl, hpx, hbx, hkx⟩
          have HM := hide (show Mid W wx T rs row AL c from ⟨_, fun _ _ h => okp_add _ h, hpx, KeepsBut.own hkx HSb.out.2.2.1 (by decide), HSb.out.2.2.2.trans hbx⟩)
          clear hpx hbx hkx AC
          go_wp2_with fail
          go_meet
          exact HM.out
      · -- an Add
        have y1 : wb.cell? ⟨wr.heap.size, 1, none⟩ = some (.bool yes) := BX.out.cell 1
        have y3 : wb.cell? ⟨wr.heap.size, 3, none⟩ = some (.int .i64 xv) := BX.out.cell 3
        have hTT := HSb.out.1.lt
        by_cases hfull : rs.length = 256
        · have AC := hide (fun b => Add_full T W.heap.size rs yes b wb HSb.out.1 hfull)
          clear hfull
          go_wp2_with fail
          refine (AC.out _).mono ?_
          rintro e wx ⟨rfl, rfl⟩
          go_wp2_with fail
          go_meet
          exact ⟨rs, fun _ _ h => h, HSb.out.1, HSb.out.2.2.1, HSb.out.2.2.2⟩
        · have hlt2 : rs.length < 256 := by have := HSb.out.1.2.1; omega
          have AC := hide (fun b => Add_yes T W.heap.size rs yes b wb HSb.out.1 hlt2)
          clear hfull hlt2
          go_wp2_with fail
          refine (AC.out _).mono ?_
          rintro e wx ⟨rfl, hpx, hbx, hkx⟩
          have HM := hide (show Mid W wx T rs row AL c from ⟨_, fun _ _ h => okp_add _ h, hpx, KeepsBut.own hkx HSb.out.2.2.1 (by decide), HSb.out.2.2.2.trans hbx⟩)
          clear hpx hbx hkx AC
          go_wp2_with fail
          go_meet
          exact HM.out
      · -- a Complete
        have y3 : wb.cell? ⟨wr.heap.size, 3, none⟩ = some (.int .i64 xv) := BX.out.cell 3
        have y4 : wb.cell? ⟨wr.heap.size, 4, none⟩ = some (.int .i64 xp) := BX.out.cell 4
        have y5 : wb.cell? ⟨wr.heap.size, 5, none⟩ = some (.int .i64 xt) := BX.out.cell 5
        have FC := hide (fun (w1 : World) (hb : Below wb.heap.size wb w1) => (first_c xA xcap xl w1 (HXR.out.below (HSb.out.2.2.2.trans (hb.mono HSb.out.2.2.2.size)))).mono (R' := fun e w' => e = .returned (.int .i64 (firstN xl)) ∧ Below w1.heap.size w1 w') (by rintro e w' ⟨h1, rfl⟩; exact ⟨h1, Below.refl _ _⟩))
        obtain ⟨k, hk⟩ : ∃ k, firstN xl = k := ⟨_, rfl⟩
        rw [hk] at FC
        clear hk
        let RR : Nat → Value → World → Prop := fun sl u _ => match sl with
          | 60 => u = .pointer (some ⟨T, 0, none⟩)
          | 61 => u = .pointer (some ⟨wr.heap.size, 2, none⟩)
          | 62 => u = .slice xA xl.length xcap
          | 63 => u = .int .i64 k
          | 64 => u = .pointer (some ⟨wr.heap.size, 3, none⟩)
          | 65 => u = .int .i64 xv
          | 66 => u = .pointer (some ⟨wr.heap.size, 4, none⟩)
          | 67 => u = .int .i64 xp
          | 68 => u = .pointer (some ⟨wr.heap.size, 5, none⟩)
          | 69 => u = .int .i64 xt
          | _ => True
        go_wp2_with fail
        refine wp_region_relT 10 RR (by kernel_rfl) (by kernel_rfl) (by kernel_rfl) (by kernel_rfl) (fun t v wx wy h _ => h) ?step18 ?fin18
        case step18 =>
          intro op hop
          simp only [List.take, List.mem_cons, List.not_mem_nil, or_false] at hop
          rcases hop with rfl | rfl | rfl | rfl | rfl | rfl | rfl | rfl | rfl | rfl
          · intro a w1 hb hs hr
            have e5 : a.tmps.getD 5 undef = .pointer (some ⟨T, 0, none⟩) := hs 5 (by decide)
            rw [Array.getD_eq_getD_getElem?] at e5
            unfold Oper.wp
            simp only [execOp, Act.eval, Array.getD_eq_getD_getElem?, e5]
            go_simp
            exact ⟨_, rfl, rfl, Below.refl _ _⟩
          · intro a w1 hb hs hr
            have e8 : a.tmps.getD 8 undef = .pointer (some ⟨wr.heap.size, 0, none⟩) := hs 8 (by decide)
            rw [Array.getD_eq_getD_getElem?] at e8
            unfold Oper.wp
            simp only [execOp, Act.eval, Array.getD_eq_getD_getElem?, e8]
            go_simp
            exact ⟨_, rfl, rfl, Below.refl _ _⟩
          · intro a w1 hb hs hr
            have e61 : a.tmps.getD 61 undef = .pointer (some ⟨wr.heap.size, 2, none⟩) := hr 61 (by decide) (by apply Array.mem_toList_iff.1; repeat (first | exact List.Mem.head _ | apply List.Mem.tail))
            have cc0 : w1.cell? ⟨wr.heap.size, 2, none⟩ = some (.slice xA xl.length xcap) := (hb.cell (p := ⟨_, _, none⟩) BX.out.lt).trans y2
            rw [Array.getD_eq_getD_getElem?] at e61
            unfold Oper.wp
            simp only [execOp, Act.eval, Array.getD_eq_getD_getElem?, e61]
            go_simp
            exact ⟨_, rfl, rfl, Below.refl _ _⟩
          · intro a w1 hb hs hr
            have e62 : a.tmps.getD 62 undef = .slice xA xl.length xcap := hr 62 (by decide) (by apply Array.mem_toList_iff.1; repeat (first | exact List.Mem.head _ | apply List.Mem.tail))
            rw [Array.getD_eq_getD_getElem?] at e62
            unfold Oper.wp
            simp only [execOp, Act.eval, Array.getD_eq_getD_getElem?, e62]
            go_simp
            refine (FC.out w1 hb).mono ?_
            rintro e w9 ⟨rfl, hb9⟩
            exact ⟨_, rfl, rfl, hb9⟩
          · intro a w1 hb hs hr
            have e8 : a.tmps.getD 8 undef = .pointer (some ⟨wr.heap.size, 0, none⟩) := hs 8 (by decide)
            rw [Array.getD_eq_getD_getElem?] at e8
            unfold Oper.wp
            simp only [execOp, Act.eval, Array.getD_eq_getD_getElem?, e8]
            go_simp
            exact ⟨_, rfl, rfl, Below.refl _ _⟩
          · intro a w1 hb hs hr
            have e64 : a.tmps.getD 64 undef = .pointer (some ⟨wr.heap.size, 3, none⟩) := hr 64 (by decide) (by apply Array.mem_toList_iff.1; repeat (first | exact List.Mem.head _ | apply List.Mem.tail))
            have cc0 : w1.cell? ⟨wr.heap.size, 3, none⟩ = some (.int .i64 xv) := (hb.cell (p := ⟨_, _, none⟩) BX.out.lt).trans y3
            rw [Array.getD_eq_getD_getElem?] at e64
            unfold Oper.wp
            simp only [execOp, Act.eval, Array.getD_eq_getD_getElem?, e64]
            go_simp
            exact ⟨_, rfl, rfl, Below.refl _ _⟩
          · intro a w1 hb hs hr
            have e8 : a.tmps.getD 8 undef = .pointer (some ⟨wr.heap.size, 0, none⟩) := hs 8 (by decide)
            rw [Array.getD_eq_getD_getElem?] at e8
            unfold Oper.wp
            simp only [execOp, Act.eval, Array.getD_eq_getD_getElem?, e8]
            go_simp
            exact ⟨_, rfl, rfl, Below.refl _ _⟩
          · intro a w1 hb hs hr
            have e66 : a.tmps.getD 66 undef = .pointer (some ⟨wr.heap.size, 4, none⟩) := hr 66 (by decide) (by apply Array.mem_toList_iff.1; repeat (first | exact List.Mem.head _ | apply List.Mem.tail))
            have cc0 : w1.cell? ⟨wr.heap.size, 4, none⟩ = some (.int .i64 xp) := (hb.cell (p := ⟨_, _, none⟩) BX.out.lt).trans y4
            rw [Array.getD_eq_getD_getElem?] at e66
            unfold Oper.wp
            simp only [execOp, Act.eval, Array.getD_eq_getD_getElem?, e66]
            go_simp
            exact ⟨_, rfl, rfl, Below.refl _ _⟩
          · intro a w1 hb hs hr
            have e8 : a.tmps.getD 8 undef = .pointer (some ⟨wr.heap.size, 0, none⟩) := hs 8 (by decide)
            rw [Array.getD_eq_getD_getElem?] at e8
            unfold Oper.wp
            simp only [execOp, Act.eval, Array.getD_eq_getD_getElem?, e8]
            go_simp
            exact ⟨_, rfl, rfl, Below.refl _ _⟩
          · intro a w1 hb hs hr
            have e68 : a.tmps.getD 68 undef = .pointer (some ⟨wr.heap.size, 5, none⟩) := hr 68 (by decide) (by apply Array.mem_toList_iff.1; repeat (first | exact List.Mem.head _ | apply List.Mem.tail))
            have cc0 : w1.cell? ⟨wr.heap.size, 5, none⟩ = some (.int .i64 xt) := (hb.cell (p := ⟨_, _, none⟩) BX.out.lt).trans y5
            rw [Array.getD_eq_getD_getElem?] at e68
            unfold Oper.wp
            simp only [execOp, Act.eval, Array.getD_eq_getD_getElem?, e68]
            go_simp
            exact ⟨_, rfl, rfl, Below.refl _ _⟩
        case fin18 =>
          intro ff wx hb hr
          have e60 : ff 60 = .pointer (some ⟨T, 0, none⟩) := hr 60 (by decide)
          have e63 : ff 63 = .int .i64 k := hr 63 (by decide)
          have e65 : ff 65 = .int .i64 xv := hr 65 (by decide)
          have e67 : ff 67 = .int .i64 xp := hr 67 (by decide)
          have e69 : ff 69 = .int .i64 xt := hr 69 (by decide)
          have HSx := hide (HSb.out.below hb)
          simp only [putAll, slotsOf, List.take, List.drop, List.filterMap_cons, List.filterMap_nil, List.foldl_cons, List.foldl_nil, Act.put, e60, e63, e65, e67, e69]
          simp only [List.setIfInBounds_toArray, List.set_cons_succ, List.set_cons_zero]
          clear e60 e63 e65 e67 e69 hr hb HSb BX FC y0 y2 y3 y4 y5
          by_cases hh : here rs k
          · obtain ⟨h0, h1, h2⟩ := hh
            obtain ⟨y, rfl⟩ : ∃ y : Nat, k = (y : Int) := ⟨k.toNat, by omega⟩
            rw [Int.toNat_natCast] at h2
            have hy : y < rs.length := by omega
            rw [pick_rq hy] at h2
            cases hd : rs[y].done with
            | true =>
              have CC := hide (Complete_done T W.heap.size rs y xv xp xt wx HSx.out.1 hy h2 hd)
              clear h0 h1 h2 hd
              go_wp2_with fail
              refine CC.out.mono ?_
              rintro e wz ⟨rfl, rfl⟩
              go_wp2_with fail
              go_meet
              exact ⟨rs, fun _ _ h => h, HSx.out.1, HSx.out.2.2.1, HSx.out.2.2.2⟩
            | false =>
              have CC := hide (Complete_yes T W.heap.size rs y xv xp xt wx HSx.out.1 hy h2 hd)
              clear h0 h1 h2 hd
              go_wp2_with fail
              refine CC.out.mono ?_
              rintro e wz ⟨rfl, hpx, hbx, hkx⟩
              have HM := hide (show Mid W wz T rs row AL c from ⟨_, fun _ _ h => okp_full hy xv xp xt h, hpx, KeepsBut.own hkx HSx.out.2.2.1 (by decide), HSx.out.2.2.2.trans hbx⟩)
              clear hpx hbx hkx CC
              go_wp2_with fail
              go_meet
              exact HM.out
          · have CC := hide (Complete_no T W.heap.size rs k xv xp xt wx HSx.out.1 hh)
            clear hh
            go_wp2_with fail
            refine CC.out.mono ?_
            rintro e wz ⟨rfl, rfl⟩
            go_wp2_with fail
            go_meet
            exact ⟨rs, fun _ _ h => h, HSx.out.1, HSx.out.2.2.1, HSx.out.2.2.2⟩
      · -- a Take
        have WO := hide (fun (w1 : World) (hb : Below wb.heap.size wb w1) => without_c xA R xcap rcap xl row w1 (HXR.out.below (HSb.out.2.2.2.trans (hb.mono HSb.out.2.2.2.size))) (HRW.out.below (HSb.out.2.2.2.trans (hb.mono HSb.out.2.2.2.size))) (by have := HXL.out; omega) (by omega))
        have WA := hide (fun h : (withoutL xl row).length = xl.length => without_all h)
        obtain ⟨L, hL⟩ : ∃ L, (withoutL xl row).length = L := ⟨_, rfl⟩
        rw [hL] at WO WA
        clear hL
        let RR : Nat → Value → World → Prop := fun sl u _ => match sl with
          | 34 | 39 => u = .pointer (some ⟨wr.heap.size, 2, none⟩)
          | 35 | 40 => u = .slice xA xl.length xcap
          | 36 => u = .slice R row.length rcap
          | 37 => ∃ A9 c9, u = .slice A9 L c9
          | 38 => u = .int .i64 (L : Int)
          | 41 => u = .int .i64 (xl.length : Int)
          | 42 => u = .bool ((L : Int) == (xl.length : Int))
          | _ => True
        go_wp2_with fail
        refine wp_region_rel RR (by kernel_rfl) (by kernel_rfl) (by kernel_rfl) (fun t v wx wy h _ => h) ?step12 ?fin12
        case step12 =>
          intro op hop
          simp only [List.mem_cons, List.not_mem_nil, or_false] at hop
          rcases hop with rfl | rfl | rfl | rfl | rfl | rfl | rfl | rfl | rfl
          · intro a w1 hb hs hr
            have e8 : a.tmps.getD 8 undef = .pointer (some ⟨wr.heap.size, 0, none⟩) := hs 8 (by decide)
            rw [Array.getD_eq_getD_getElem?] at e8
            unfold Oper.wp
            simp only [execOp, Act.eval, Array.getD_eq_getD_getElem?, e8]
            go_simp
            exact ⟨_, rfl, rfl, Below.refl _ _⟩
          · intro a w1 hb hs hr
            have e34 : a.tmps.getD 34 undef = .pointer (some ⟨wr.heap.size, 2, none⟩) := hr 34 (by decide) (by apply Array.mem_toList_iff.1; repeat (first | exact List.Mem.head _ | apply List.Mem.tail))
            have cc0 : w1.cell? ⟨wr.heap.size, 2, none⟩ = some (.slice xA xl.length xcap) := (hb.cell (p := ⟨_, _, none⟩) BX.out.lt).trans y2
            rw [Array.getD_eq_getD_getElem?] at e34
            unfold Oper.wp
            simp only [execOp, Act.eval, Array.getD_eq_getD_getElem?, e34]
            go_simp
            exact ⟨_, rfl, rfl, Below.refl _ _⟩
          · intro a w1 hb hs hr
            have e1 : a.tmps.getD 1 undef = .slice R row.length rcap := hs 1 (by decide)
            rw [Array.getD_eq_getD_getElem?] at e1
            unfold Oper.wp
            simp only [execOp, Act.eval, Array.getD_eq_getD_getElem?, e1]
            go_simp
            exact ⟨_, rfl, rfl, Below.refl _ _⟩
          · intro a w1 hb hs hr
            have e35 : a.tmps.getD 35 undef = .slice xA xl.length xcap := hr 35 (by decide) (by apply Array.mem_toList_iff.1; repeat (first | exact List.Mem.head _ | apply List.Mem.tail))
            have e36 : a.tmps.getD 36 undef = .slice R row.length rcap := hr 36 (by decide) (by apply Array.mem_toList_iff.1; repeat (first | exact List.Mem.head _ | apply List.Mem.tail))
            rw [Array.getD_eq_getD_getElem?] at e35
            rw [Array.getD_eq_getD_getElem?] at e36
            unfold Oper.wp
            simp only [execOp, Act.eval, Array.getD_eq_getD_getElem?, e35, e36]
            go_simp
            refine (WO.out w1 hb).mono ?_
            rintro e w9 ⟨A9, c9, rfl, ho9, hb9⟩
            exact ⟨_, rfl, ⟨A9, c9, rfl⟩, hb9⟩
          · intro a w1 hb hs hr
            have e37 : ∃ A9 c9, a.tmps.getD 37 undef = .slice A9 L c9 := hr 37 (by decide) (by apply Array.mem_toList_iff.1; repeat (first | exact List.Mem.head _ | apply List.Mem.tail))
            obtain ⟨A9, c9, e37⟩ := e37
            rw [Array.getD_eq_getD_getElem?] at e37
            unfold Oper.wp
            simp only [execOp, Act.eval, Array.getD_eq_getD_getElem?, e37]
            go_simp
            exact ⟨_, rfl, rfl, Below.refl _ _⟩
          · intro a w1 hb hs hr
            have e8 : a.tmps.getD 8 undef = .pointer (some ⟨wr.heap.size, 0, none⟩) := hs 8 (by decide)
            rw [Array.getD_eq_getD_getElem?] at e8
            unfold Oper.wp
            simp only [execOp, Act.eval, Array.getD_eq_getD_getElem?, e8]
            go_simp
            exact ⟨_, rfl, rfl, Below.refl _ _⟩
          · intro a w1 hb hs hr
            have e39 : a.tmps.getD 39 undef = .pointer (some ⟨wr.heap.size, 2, none⟩) := hr 39 (by decide) (by apply Array.mem_toList_iff.1; repeat (first | exact List.Mem.head _ | apply List.Mem.tail))
            have cc0 : w1.cell? ⟨wr.heap.size, 2, none⟩ = some (.slice xA xl.length xcap) := (hb.cell (p := ⟨_, _, none⟩) BX.out.lt).trans y2
            rw [Array.getD_eq_getD_getElem?] at e39
            unfold Oper.wp
            simp only [execOp, Act.eval, Array.getD_eq_getD_getElem?, e39]
            go_simp
            exact ⟨_, rfl, rfl, Below.refl _ _⟩
          · intro a w1 hb hs hr
            have e40 : a.tmps.getD 40 undef = .slice xA xl.length xcap := hr 40 (by decide) (by apply Array.mem_toList_iff.1; repeat (first | exact List.Mem.head _ | apply List.Mem.tail))
            rw [Array.getD_eq_getD_getElem?] at e40
            unfold Oper.wp
            simp only [execOp, Act.eval, Array.getD_eq_getD_getElem?, e40]
            go_simp
            exact ⟨_, rfl, rfl, Below.refl _ _⟩
          · intro a w1 hb hs hr
            have e38 : a.tmps.getD 38 undef = .int .i64 (L : Int) := hr 38 (by decide) (by apply Array.mem_toList_iff.1; repeat (first | exact List.Mem.head _ | apply List.Mem.tail))
            have e41 : a.tmps.getD 41 undef = .int .i64 (xl.length : Int) := hr 41 (by decide) (by apply Array.mem_toList_iff.1; repeat (first | exact List.Mem.head _ | apply List.Mem.tail))
            rw [Array.getD_eq_getD_getElem?] at e38
            rw [Array.getD_eq_getD_getElem?] at e41
            unfold Oper.wp
            simp only [execOp, Act.eval, Array.getD_eq_getD_getElem?, e38, e41]
            go_simp
            exact ⟨_, rfl, rfl, Below.refl _ _⟩
        case fin12 =>
          intro ff wx hb hr
          have e42 : ff 42 = .bool ((L : Int) == (xl.length : Int)) := hr 42 (by decide)
          have HSx := hide (HSb.out.below hb)
          have BXx := hide (BX.out.below hb BX.out.lt)
          have y2 : wx.cell? ⟨wr.heap.size, 2, none⟩ = some (.slice xA xl.length xcap) := BXx.out.cell 2
          simp only [putAll, slotsOf, List.take, List.drop, List.filterMap_cons, List.filterMap_nil, List.foldl_cons, List.foldl_nil, Act.put, e42]
          simp only [List.setIfInBounds_toArray, List.set_cons_succ, List.set_cons_zero]
          clear e42 hr hb HSb BX WO y0
          by_cases hL : L = xl.length
          · have hLb : ((L : Int) == (xl.length : Int)) = true := by simp [hL]
            have HNO := hide (WA.out hL)
            rw [hLb]
            have TC := hide (Take_c T W.heap.size rs xA xcap xl wx HSx.out.1 (HXR.out.below HSx.out.2.2.2) (fun h0 => HSx.out.1.apart2 (HLW.out.2 h0)) (by have := HXL.out; omega) HLW.out.1)
            clear hL hLb WA
            go_wp2_with fail
            refine TC.out.mono ?_
            rintro e wz (⟨htk, A2, c2', rfl, _, hpx, hbx, hkx⟩ | ⟨hn2, rfl, hbx⟩)
            · have HM := hide (show Mid W wz T rs row AL c from ⟨_, fun x hx h => okp_take (fun y hy => (htk.1.2.2.1 y hy).1) (fun hm => HNO.out x hm hx) h, hpx, KeepsBut.own hkx HSx.out.2.2.1 (by decide), HSx.out.2.2.2.trans hbx⟩)
              clear htk hpx hbx hkx TC
              go_wp2_with fail
              go_meet
              exact HM.out
            · have HSz := hide (HSx.out.below hbx)
              clear hn2 hbx TC HSx BXx y2
              go_wp2_with fail
              go_meet
              exact ⟨rs, fun _ _ h => h, HSz.out.1, HSz.out.2.2.1, HSz.out.2.2.2⟩
          · have hLb : ((L : Int) == (xl.length : Int)) = false := by rw [beq_eq_false_iff_ne]; omega
            rw [hLb]
            clear hL hLb WA
            go_wp2_with fail
            go_meet
            exact ⟨rs, fun _ _ h => h, HSx.out.1, HSx.out.2.2.1, HSx.out.2.2.2⟩
    case rest =>
    obtain ⟨rs', hgr, hpr, hown, hbel⟩ := hcut
    have HG := hide (now_grows hgr)
    have WC : Hid (Calls Try.prog 19 #[.pointer (some ⟨T, 0, none⟩), .slice R row.length rcap] wc fun e w' => ∃ A' c', e = .returned (.slice A' (nowL rs' row).length c') ∧ w'.ownsRow wc.heap.size 3 1 (.slice A' (nowL rs' row).length c') (nowL rs' row).length (ints (nowL rs' row)) ∧ Below wc.heap.size wc w') := hide (Which_c T W.heap.size rs' R rcap row wc hpr (HRW.out.below hbel) (by omega))
    have HP := hide hpr
    have HO := hide hown
    have HB := hide hbel
    have hTw := HSb.out.2.1
    clear hgr hpr hown hbel HSb BX
    go_wp2_with fail
    refine WC.out.mono ?_
    rintro e wd ⟨A2, c2, rfl, ho2, hb2⟩
    have HPd := hide (HP.out.below hb2)
    have HBd := hide (HB.out.trans (hb2.mono HB.out.size))
    have HO2 := hide ho2
    have hnl : (nowL rs row).length ≤ 20 := by have := nowL_len rs row; omega
    have hnl2 : (nowL rs' row).length ≤ 20 := by have := nowL_len rs' row; omega
    have WO := hide (without_c AL A2 c c2 (nowL rs row) (nowL rs' row) wd (own_nrow (own_belowR HO.out hb2)) (own_nrow ho2) (by omega) (by omega))
    rw [HG.out] at WO
    have RNG := hide (now_range rs' row)
    have RIS := hide (now_rise rs' row)
    have NRd := hide (own_nrow ho2)
    have HBN := hide (HB.out.size)
    have SF0 := hide (fun (wl : World) (h : Below wd.heap.size wd wl) => show St W wl T rs' row A2 c2 from ⟨HPd.out.below h, hTw, own_belowR (own_more HO2.out HBN.out) h, HBd.out.trans (h.mono HBd.out.size)⟩)
    obtain ⟨now, hnow⟩ : ∃ z, nowL rs' row = z := ⟨_, rfl⟩
    have HNW := hide hnow
    rw [hnow] at WO RNG RIS NRd hnl2
    rw [hnow]
    clear hnow ho2 hb2 HO HP HB HO2 HG WC
    go_wp2_with fail
    refine WO.out.mono ?_
    rintro e we ⟨A3, c3, rfl, _, hb3⟩
    have HB3 := hide hb3
    have NR := hide (NRd.out.below hb3)
    have SF := hide (fun (wl : World) (h : Below we.heap.size we wl) => SF0.out wl (HB3.out.trans (h.mono HB3.out.size)))
    clear hb3 WO NRd SF0 HPd HBd
    simp only [List.length_nil]
    go_wp2_with fail
    go_loopw [10] (fun vn wl => ∃ m : Nat, m ≤ now.length ∧ vn = .int .i64 m ∧ Hid (Below we.heap.size we wl)) (fun vn _ => now.length - (RowKit.intOf vn).toNat)
    case atStart => exact ⟨0, Nat.zero_le _, rfl, hide (Below.refl _ _)⟩
    case round =>
      obtain ⟨m, hm, rfl, HBl⟩ := hrel
      rename World => wl
      by_cases hlt2 : m < now.length
      rotate_left
      · have hltI2 : ¬ (m : Int) < (now.length : Int) := by omega
        have HSf := hide (SF.out wl HBl.out)
        clear SF HBl
        go_wp2_with fail
        go_roundw
        case rel =>
          exact ⟨i + 1, by omega, by go_num, rs', A2, c2, by rw [HNW.out], HSf⟩
        case measure => simp [RowKit.intOf] <;> omega
      have hltI2 : (m : Int) < (now.length : Int) := by omega
      obtain ⟨ad, rfl, had, hcd⟩ := NR.out (by omega)
      have HADL := hide (Nat.lt_of_lt_of_le had HBl.out.size)
      have hcq : ∀ p : BelowOf wl, p.world.cell? (ad.add m) = some (.int .i64 (now.getD m 0)) := fun p => ((HBl.out.trans (p.below.mono HBl.out.size)).cell (by rw [block_of_add]; exact had)).trans (hcd m hlt2)
      obtain ⟨hx0, hx1⟩ := RNG.out m hlt2
      have hne : Nonempty (BelowOf wl) := ⟨⟨wl, Below.refl _ _⟩⟩
      cases m with
      | zero =>
        rw [show ad.add 0 = ad from rfl] at hcq
        generalize now.getD 0 0 = x at *
        have b0 : decide (x < 0) = false := by rw [decide_eq_false_iff_not]; omega
        have b1 : decide ((row.length : Int) ≤ x) = false := by rw [decide_eq_false_iff_not]; omega
        have b2 : ¬ x < 0 := by omega
        have b3 : ¬ (row.length : Int) ≤ x := by omega
        clear hcd
        go_wp2_with fail
        refine wp_region_quiet_below (by kernel_rfl) (by kernel_rfl) ?_
        repeat (go_big_quiet_step (fail))
        refine wpQuiet_nil ?_
        rintro _ ⟨⟨Wq, hq⟩, rfl⟩
        go_wp2_with fail
        go_roundw
        case rel => exact ⟨1, by omega, by first | trivial | go_num, hide (HBl.out.trans (hq.mono HBl.out.size))⟩
        case measure => simp [RowKit.intOf] <;> omega
      | succ j =>
        have hcj : ∀ p : BelowOf wl, p.world.cell? (ad.add j) = some (.int .i64 (now.getD j 0)) := fun p => ((HBl.out.trans (p.below.mono HBl.out.size)).cell (by rw [block_of_add]; exact had)).trans (hcd j (by omega))
        have hri := RIS.out j hlt2
        rw [add_lits ad (j + 1) (by omega)] at hcq
        generalize now.getD (j + 1) 0 = x at *
        generalize now.getD j 0 = z at *
        have b0 : decide (x < 0) = false := by rw [decide_eq_false_iff_not]; omega
        have b1 : decide ((row.length : Int) ≤ x) = false := by rw [decide_eq_false_iff_not]; omega
        have b2 : ¬ x < 0 := by omega
        have b3 : ¬ (row.length : Int) ≤ x := by omega
        have b4 : decide (x ≤ z) = false := by rw [decide_eq_false_iff_not]; omega
        have b5 : ¬ x ≤ z := by omega
        have b6 : (0 : Int) < (j : Int) + 1 := by omega
        have b7 : decide ((0 : Int) < (j : Int) + 1) = true := decide_eq_true b6
        have b8 : (j : Int) + 1 - 1 = (j : Int) := by omega
        have b9 : IntKind.i64.wrap ((j : Int) + 1 - 1) = (j : Int) := by rw [IntKind.wrap_i64]; omega
        have b10 : (j : Int) < (now.length : Int) := by omega
        have b11 : ((j : Int) + 1).toNat = j + 1 := by omega
        have b12 : (j : Int) + 1 < (now.length : Int) := by omega
        have b13 : 0 ≤ (j : Int) + 1 := by omega
        clear hcd
        go_wp2_with fail
        refine wp_region_quiet_below (by kernel_rfl) (by kernel_rfl) ?_
        repeat (go_big_quiet_step (fail))
        refine wpQuiet_nil ?_
        rintro _ ⟨⟨Wq, hq⟩, rfl⟩
        go_wp2_with fail
        go_roundw
        case rel => exact ⟨j + 1 + 1, by omega, by first | trivial | go_num, hide (HBl.out.trans (hq.mono HBl.out.size))⟩
        case measure => simp [RowKit.intOf] <;> omega
end Go.Proofs.Ytiggmieoldjhnaa.RequestGrowsW
