/- The walk of the statement RequestLeft: of whatever acts; without conditions. -/
import Derived.Test.YtiggmieoldjhnaaRows
import Derived.Test.YtiggmieoldjhnaaReqN
namespace Go.Proofs.Ytiggmieoldjhnaa.RequestLeftW
open Go Go.RowKit Go.Proofs.Ytiggmieoldjhnaa Go.Proofs.Ytiggmieoldjhnaa.Grp Go.Proofs.Ytiggmieoldjhnaa.Req
set_option linter.unusedVariables false
set_option linter.unusedSimpArgs false
theorem box6 (w : World) (t : TypeId) (d0 d1 d2 d3 d4 d5 c0 c1 c2 c3 c4 c5 : Value) :
    Blk (((((((w.alloc (.cells #[d0, d1, d2, d3, d4, d5] t)).setCell ⟨w.heap.size, 0, none⟩ c0).setCell ⟨w.heap.size, 1, none⟩ c1).setCell ⟨w.heap.size, 2, none⟩ c2).setCell ⟨w.heap.size, 3, none⟩ c3).setCell ⟨w.heap.size, 4, none⟩ c4).setCell ⟨w.heap.size, 5, none⟩ c5) w.heap.size t #[c0, c1, c2, c3, c4, c5] ∧
    Below w.heap.size w (((((((w.alloc (.cells #[d0, d1, d2, d3, d4, d5] t)).setCell ⟨w.heap.size, 0, none⟩ c0).setCell ⟨w.heap.size, 1, none⟩ c1).setCell ⟨w.heap.size, 2, none⟩ c2).setCell ⟨w.heap.size, 3, none⟩ c3).setCell ⟨w.heap.size, 4, none⟩ c4).setCell ⟨w.heap.size, 5, none⟩ c5) :=
  ⟨((((((Blk.new w t #[d0, d1, d2, d3, d4, d5]).set_ 0 c0).set_ 1 c1).set_ 2 c2).set_ 3 c3).set_ 4 c4).set_ 5 c5,
   (((((((Below.refl _ w).alloc (Nat.le_refl _) _).setCell (p := ⟨w.heap.size, 0, none⟩) (Nat.le_refl _) _).setCell (p := ⟨w.heap.size, 1, none⟩) (Nat.le_refl _) _).setCell (p := ⟨w.heap.size, 2, none⟩) (Nat.le_refl _) _).setCell (p := ⟨w.heap.size, 3, none⟩) (Nat.le_refl _) _).setCell (p := ⟨w.heap.size, 4, none⟩) (Nat.le_refl _) _).setCell (p := ⟨w.heap.size, 5, none⟩) (Nat.le_refl _) _⟩
theorem rem4 {k : Int} (h0 : 0 ≤ k) : Int.tmod k 4 = 0 ∨ Int.tmod k 4 = 1 ∨ Int.tmod k 4 = 2 ∨ Int.tmod k 4 = 3 := by
  rw [Int.tmod_eq_emod_of_nonneg h0]
  omega
/-- What stands in a round. -/
def St (W wr : World) (T : Nat) (rs : List Rq) (A : Option Addr) (c : Nat) : Prop :=
  PR wr T W.heap.size rs ∧ W.heap.size ≤ T ∧ wr.ownsRow W.heap.size 3 1 (.slice A (leftN rs rs.length).length c) (leftN rs rs.length).length (ints (leftN rs rs.length)) ∧ Below W.heap.size W wr ∧ (∀ q ∈ rs, q.done = true) ∧ rs.length ≤ 256
theorem St.below {W wr w' : World} {T : Nat} {rs : List Rq} {A : Option Addr} {c : Nat} (h : St W wr T rs A c) (hb : Below wr.heap.size wr w') : St W w' T rs A c :=
  ⟨h.1.below hb, h.2.1, own_belowR h.2.2.1 hb, h.2.2.2.1.trans (hb.mono h.2.2.2.1.size), h.2.2.2.2⟩
set_option maxRecDepth 100000 in
set_option maxHeartbeats 16000000 in
theorem walk {H : Type} {enc : TypeId × Value → H} {base : Nat} (W : World) (v0 : Value) (d0 : DataW H) (p0 : List MemPlace) (o0 : Value.okWide Try.prog W .any base 22 v0) (r0 : DataW.Trod enc Try.prog W 0 (fun _ => true) true 22 v0 d0 p0) :
    Calls Try.prog 3 #[v0] W fun e w' => e = .returned (.bool true) ∧ Below W.heap.size W w' := by
  obtain ⟨A, n, cap, F, rfl, hn, hlow, hacts⟩ := acts_of o0 r0 (fun _ => rfl)
  clear o0 r0
  have AW := hide (awake_c W)
  have HA := hide hacts
  have HLO := hide hlow
  clear hacts hlow
  go_enter Try.func3, Try.ntmps3
  go_wp2_with fail
  refine AW.out.mono ?_
  rintro e w1 ⟨rfl, hb1⟩
  have GR := hide (Great_a A n cap F w1 (HA.out.below hb1) hn)
  have HB1 := hide hb1
  clear hb1 AW
  go_wp2_with fail
  refine GR.out.mono ?_
  rintro e w' ⟨rfl | ⟨rfl, hn6, hF⟩, rfl⟩
  · go_wp2_with fail
    go_ret
    exact ⟨rfl, HB1.out⟩
  have HF := hide hF
  have NC := hide (New_c w1)
  clear hF GR hn
  go_wp2_with fail
  refine NC.out.mono ?_
  rintro e w2 ⟨rfl, hp2, hb2⟩
  have hs1 := HB1.out.size
  have hPB : PR w2 w1.heap.size W.heap.size [] := by
    obtain ⟨h0, h1, O, oc, h2, h3⟩ := hp2
    exact ⟨hs1, h1, O, oc, h2, own_more h3 hs1⟩
  have S2 := hide (show St W w2 w1.heap.size [] none 0 from ⟨hPB, hs1, ⟨rfl, .inl ⟨rfl, rfl⟩⟩, HB1.out.trans (hb2.mono hs1), fun q hq => by (cases hq), by simp⟩)
  obtain ⟨T, hT⟩ : ∃ T, w1.heap.size = T := ⟨_, rfl⟩
  rw [hT] at S2 ⊢
  clear hp2 hb2 hPB NC HB1 hs1 hT
  go_wp2_with fail
  go_loopw [4, 5, 6] (fun vl vm vi wr => ∃ i : Nat, i ≤ n ∧ vi = .int .i64 i ∧ ∃ (rs : List Rq) (AL : Option Addr) (c : Nat), vl = .slice AL (leftN rs rs.length).length c ∧ vm = .int .i64 rs.length ∧ Hid (St W wr T rs AL c)) (fun vl vm vi _ => n - (RowKit.intOf vi).toNat)
  case atStart => exact ⟨0, Nat.zero_le _, rfl, [], none, 0, rfl, rfl, S2⟩
  case round =>
    obtain ⟨i, hi, rfl, rs, AL, c, rfl, rfl, HS⟩ := hrel
    rename World => wr
    clear S2
    by_cases hlt : i < n
    rotate_left
    · have hltI : ¬ (i : Int) < (n : Int) := by omega
      go_wp2_with fail
      go_ret
      exact ⟨rfl, HS.out.2.2.2.1⟩
    have hltI : (i : Int) < (n : Int) := by omega
    have hBw := HS.out.2.2.2.1
    obtain ⟨a, rfl, c0, c1, c2, c3, c4, c5, hxr, k0, k1, halt⟩ := HA.out i hlt
    have c0 := (hBw.cell halt).trans c0
    have c1 := (hBw.cell (p := ⟨_, _, none⟩) halt).trans c1
    have c2 := (hBw.cell (p := ⟨_, _, none⟩) halt).trans c2
    have c3 := (hBw.cell (p := ⟨_, _, none⟩) halt).trans c3
    have c4 := (hBw.cell (p := ⟨_, _, none⟩) halt).trans c4
    have c5 := (hBw.cell (p := ⟨_, _, none⟩) halt).trans c5
    have HXL := hide (HF.out i hlt)
    have HLW := hide (HLO.out i hlt)
    generalize F i = x at *
    obtain ⟨kind, yes, xA, xcap, xl, xv, xp, xt⟩ := x
    simp only at c0 c1 c2 c3 c4 c5 hxr k0 k1
    have HXR : Hid (NRow W xA xl) := hide hxr
    have HXL : Hid (xl.length ≤ 20) := HXL
    have HLW : Hid (xl.length ≤ xcap ∧ (0 < xl.length → ∀ a, xA = some a → a.block < W.heap.size)) := HLW
    obtain ⟨hbk, hbx⟩ := box6 wr 29 (.int .u8 0) (.bool false) (.slice none 0 0) (.int .i64 0) (.int .i64 0) (.int .i64 0) (.int .u8 kind) (.bool yes) (.slice xA xl.length xcap) (.int .i64 xv) (.int .i64 xp) (.int .i64 xt)
    have bz := Blk.new wr 29 #[.int .u8 0, .bool false, .slice none 0 0, .int .i64 0, .int .i64 0, .int .i64 0]
    obtain ⟨wa, hwa⟩ : ∃ x, wr.alloc (.cells #[.int .u8 0, .bool false, .slice none 0 0, .int .i64 0, .int .i64 0, .int .i64 0] 29) = x := ⟨_, rfl⟩
    rw [hwa] at hbk hbx bz
    have z0 : wa.cell? ⟨wr.heap.size, 0, none⟩ = some (.int .u8 0) := bz.cell 0
    have z1 : wa.cell? ⟨wr.heap.size, 1, none⟩ = some (.bool false) := bz.cell 1
    have z2 : wa.cell? ⟨wr.heap.size, 2, none⟩ = some (.slice none 0 0) := bz.cell 2
    have z3 : wa.cell? ⟨wr.heap.size, 3, none⟩ = some (.int .i64 0) := bz.cell 3
    have z4 : wa.cell? ⟨wr.heap.size, 4, none⟩ = some (.int .i64 0) := bz.cell 4
    have z5 : wa.cell? ⟨wr.heap.size, 5, none⟩ = some (.int .i64 0) := bz.cell 5
    have f0 := bz.frozen 0
    have f1 := bz.frozen 1
    have f2 := bz.frozen 2
    have f3 := bz.frozen 3
    have f4 := bz.frozen 4
    have f5 := bz.frozen 5
    obtain ⟨wb, hwb⟩ : ∃ x, (((((wa.setCell ⟨wr.heap.size, 0, none⟩ (.int .u8 kind)).setCell ⟨wr.heap.size, 1, none⟩ (.bool yes)).setCell ⟨wr.heap.size, 2, none⟩ (.slice xA xl.length xcap)).setCell ⟨wr.heap.size, 3, none⟩ (.int .i64 xv)).setCell ⟨wr.heap.size, 4, none⟩ (.int .i64 xp)).setCell ⟨wr.heap.size, 5, none⟩ (.int .i64 xt) = x := ⟨_, rfl⟩
    rw [hwb] at hbk hbx
    have y0 : wb.cell? ⟨wr.heap.size, 0, none⟩ = some (.int .u8 kind) := hbk.cell 0
    have y1 : wb.cell? ⟨wr.heap.size, 1, none⟩ = some (.bool yes) := hbk.cell 1
    have y2 : wb.cell? ⟨wr.heap.size, 2, none⟩ = some (.slice xA xl.length xcap) := hbk.cell 2
    have BX := hide hbk
    have HSb := hide (HS.out.below hbx)
    have hwl := hBw.size
    have hTw := HS.out.2.1
    obtain ⟨X, hX⟩ : ∃ X, wr.heap.size = X := ⟨_, rfl⟩
    have hWX : W.heap.size ≤ X := by omega
    have hl256 := HS.out.2.2.2.2.2
    have HDN := hide HS.out.2.2.2.2.1
    clear hbk hbx bz hxr halt HS hBw hwl
    rcases rem4 k0 with hm | hm | hm | hm
    · -- an Add
      clear hX
      have hTT := HSb.out.1.lt
      by_cases hfull : rs.length = 256
      · have AC := hide (Add_full T W.heap.size rs yes true wb HSb.out.1 hfull)
        have HS9 := HSb
        have BX9 := BX
        clear hfull
        go_wp2_with fail
        refine AC.out.mono ?_
        rintro e wx ⟨rfl, rfl⟩
        clear z0 z1 z2 z3 z4 z5 f0 f1 f2 f3 f4 f5 c0 c1 c2 c3 c4 c5 y0 y1 y2 HSb BX AC hwa hwb
        obtain ⟨wx, hwx⟩ : ∃ z, wb = z := ⟨_, rfl⟩
        rw [hwx] at HS9 BX9 ⊢
        clear hwx
        have LF := hide (Left_c T W.heap.size rs wx HS9.out.1)
        go_wp2_with fail
        refine LF.out.mono ?_
        rintro e wl ⟨A9, c9, rfl, ho9, hb9⟩
        have HSl := hide (HS9.out.below hb9)
        have BXl := hide (BX9.out.below hb9 BX9.out.lt)
        have hlb := Nat.le_trans (leftN_len rs (rs).length) HS9.out.2.2.2.2.2
        have IC := hide (Grp.Ints_b A9 AL c9 c (leftN rs (rs).length) (leftN rs (rs).length) wl (own_nrow ho9) (own_nrow HSl.out.2.2.1) (by omega) (by omega))
        rw [decide_eq_true rfl] at IC
        have hLq := hide hlb
        clear ho9 hb9 LF HS9 BX9 hlb
        go_wp2_with fail
        refine IC.out.mono ?_
        rintro e wi ⟨rfl, hbi⟩
        have HSi := hide (HSl.out.below hbi)
        have BXi := hide (BXl.out.below hbi BXl.out.lt)
        have MC := Many_c T W.heap.size rs wi HSi.out.1
        have HMC := hide MC
        have y2 : wi.cell? ⟨wr.heap.size, 2, none⟩ = some (.slice xA xl.length xcap) := BXi.out.cell 2
        have FC := hide (first_c xA xcap xl wi (HXR.out.below HSi.out.2.2.2.1))
        have mm1 : ((rs.length : Int) == (rs.length : Int)) = true := by simp
        have mm2 : ((rs.length : Int) != (rs.length : Int)) = false := by simp
        clear hbi IC HSl BXl MC
        go_wp2_with fail
        refine HMC.out.mono ?_
        rintro e w' ⟨rfl, rfl⟩
        go_wp2_with fail
        refine FC.out.mono ?_
        rintro e w' ⟨rfl, rfl⟩
        generalize firstN xl = k
        have hba := (Below.refl wi.heap.size wi).alloc (Nat.le_refl _) (.cells #[.int .i64 k] 3)
        have kba := Blk.new wi 3 #[.int .i64 k]
        have HSa := hide (HSi.out.below hba)
        have MY1 := May_c T W.heap.size rs (some ⟨wi.heap.size, 0, none⟩) 1 [k] (wi.alloc (.cells #[.int .i64 k] 3)) HSa.out.1 (blk_nrow kba) (by simp) (by simp)
        rw [mayE_one] at MY1
        have HC := has_c AL c (leftN rs (rs).length) k (wi.alloc (.cells #[.int .i64 k] 3)) (own_nrow HSa.out.2.2.1) (by have := hLq.out; omega)
        obtain ⟨wj, hwj⟩ : ∃ z, wi.alloc (.cells #[.int .i64 k] 3) = z := ⟨_, rfl⟩
        rw [hwj] at HSa MY1 HC
        have hbb := (Below.refl wj.heap.size wj).alloc (Nat.le_refl _) (.cells #[.int .i64 k, .int .i64 k] 3)
        have kbb := Blk.new wj 3 #[.int .i64 k, .int .i64 k]
        have HSz := hide (HSa.out.below hbb)
        have MY2 := May_c T W.heap.size rs (some ⟨wj.heap.size, 0, none⟩) 2 [k, k] (wj.alloc (.cells #[.int .i64 k, .int .i64 k] 3)) HSz.out.1 (blk_nrow kbb) (by simp) (by simp)
        rw [mayE_two] at MY2
        have HM2 := hide MY2
        clear hba kba hbb kbb MY2 y2 FC HMC BXi
        by_cases hin : k ∈ leftN rs (rs).length
        · rw [if_pos hin] at MY1
          rw [decide_eq_true hin] at HC
          have HM1 := hide MY1
          have HCC := hide HC
          clear MY1 HC hin
          go_wp2_with fail
          refine HM1.out.mono ?_
          rintro e w' ⟨rfl, rfl⟩
          go_wp2_with fail
          refine HCC.out.mono ?_
          rintro e w' ⟨rfl, rfl⟩
          go_wp2_with fail
          refine HM2.out.mono ?_
          rintro e w' ⟨rfl, rfl⟩
          go_wp2_with fail
          go_roundw
          case rel => exact ⟨i + 1, by omega, by go_num, rs, AL, c, rfl, rfl, HSz⟩
          case measure => simp [RowKit.intOf] <;> omega
        · rw [if_neg hin] at MY1
          rw [decide_eq_false hin] at HC
          have HM1 := hide MY1
          have HCC := hide HC
          clear MY1 HC hin
          go_wp2_with fail
          refine HM1.out.mono ?_
          rintro e w' ⟨rfl, rfl⟩
          go_wp2_with fail
          refine HCC.out.mono ?_
          rintro e w' ⟨rfl, rfl⟩
          go_wp2_with fail
          refine HM2.out.mono ?_
          rintro e w' ⟨rfl, rfl⟩
          go_wp2_with fail
          go_roundw
          case rel => exact ⟨i + 1, by omega, by go_num, rs, AL, c, rfl, rfl, HSz⟩
          case measure => simp [RowKit.intOf] <;> omega
      · have hlt2 : rs.length < 256 := by omega
        have AC := hide (Add_yes T W.heap.size rs yes true wb HSb.out.1 hlt2)
        clear hfull
        go_wp2_with fail
        refine AC.out.mono ?_
        rintro e wx0 ⟨rfl, hpx, hbx, hkx⟩
        have hox := KeepsBut.own hkx HSb.out.2.2.1 (by decide)
        have hbx2 := HSb.out.2.2.2.1.trans hbx
        have bx2 := KeepsBut.blk hkx BX.out (by decide)
        obtain ⟨A1, c1', wx, hrun, hown, hbel, hky⟩ := push_int wx0 W.heap.size AL c (leftN rs rs.length).length (leftN rs rs.length) (rs.length : Int) rfl hox hbx2.size (by have := leftN_len rs rs.length; omega)
        have hla := leftN_add rs ⟨yes, true, false, 0, 0, 0⟩ rfl
        have hll : (leftN rs rs.length).length + 1 = (leftN (rs ++ [⟨yes, true, false, 0, 0, 0⟩]) (rs ++ [(⟨yes, true, false, 0, 0, 0⟩ : Rq)]).length).length := by rw [hla, List.length_append, List.length_singleton]
        have HS9 : Hid (St W wx T (rs ++ [⟨yes, true, false, 0, 0, 0⟩]) A1 c1') := hide ⟨hpx.keep hky (by decide) (by decide), hTw, by rw [← hll, hla]; exact hown, hbx2.trans hbel, fun q hq => by
          rcases List.mem_append.1 hq with h | h
          · exact HDN.out q h
          · rw [List.mem_singleton.1 h], by rw [List.length_append, List.length_singleton]; omega⟩
        have BX9 := hide (KeepsBut.blk hky bx2 (by decide))
        have RUN := hide hrun
        have HLL := hide hll
        have hM : Hid ((((rs ++ [(⟨yes, true, false, 0, 0, 0⟩ : Rq)]).length : Nat) : Int) = (rs.length : Int) + 1) := hide (by simp)
        have hrI : (rs.length : Int) < 256 := by omega
        clear z0 z1 z2 z3 z4 z5 f0 f1 f2 f3 f4 f5 c0 c1 c2 c3 c4 c5 y0 y1 y2 HSb BX AC hwa hwb hpx hbx hkx hox hbx2 bx2 hrun hown hbel hky hla hll
        go_wp2_with (at_builtin; refine Lib.wpList_append_run _ rfl _ _ 27 27 rfl _ _ rfl rfl _ _ RUN.out ?_)
        rw [HLL.out]
        clear HLL
        generalize rs ++ [(⟨yes, true, false, 0, 0, 0⟩ : Rq)] = rq at *
        have LF := hide (Left_c T W.heap.size rq wx HS9.out.1)
        refine LF.out.mono ?_
        rintro e wl ⟨A9, c9, rfl, ho9, hb9⟩
        have HSl := hide (HS9.out.below hb9)
        have BXl := hide (BX9.out.below hb9 BX9.out.lt)
        have hlb := Nat.le_trans (leftN_len rq (rq).length) HS9.out.2.2.2.2.2
        have IC := hide (Grp.Ints_b A9 A1 c9 c1' (leftN rq (rq).length) (leftN rq (rq).length) wl (own_nrow ho9) (own_nrow HSl.out.2.2.1) (by omega) (by omega))
        rw [decide_eq_true rfl] at IC
        have hLq := hide hlb
        clear ho9 hb9 LF HS9 BX9 hlb
        go_wp2_with fail
        refine IC.out.mono ?_
        rintro e wi ⟨rfl, hbi⟩
        have HSi := hide (HSl.out.below hbi)
        have BXi := hide (BXl.out.below hbi BXl.out.lt)
        have MC := Many_c T W.heap.size rq wi HSi.out.1
        rw [hM.out] at MC
        have HMC := hide MC
        have y2 : wi.cell? ⟨wr.heap.size, 2, none⟩ = some (.slice xA xl.length xcap) := BXi.out.cell 2
        have FC := hide (first_c xA xcap xl wi (HXR.out.below HSi.out.2.2.2.1))
        have mm1 : (((rs.length : Int) + 1) == ((rs.length : Int) + 1)) = true := by simp
        have mm2 : (((rs.length : Int) + 1) != ((rs.length : Int) + 1)) = false := by simp
        clear hbi IC HSl BXl MC
        go_wp2_with fail
        refine HMC.out.mono ?_
        rintro e w' ⟨rfl, rfl⟩
        go_wp2_with fail
        refine FC.out.mono ?_
        rintro e w' ⟨rfl, rfl⟩
        generalize firstN xl = k
        have hba := (Below.refl wi.heap.size wi).alloc (Nat.le_refl _) (.cells #[.int .i64 k] 3)
        have kba := Blk.new wi 3 #[.int .i64 k]
        have HSa := hide (HSi.out.below hba)
        have MY1 := May_c T W.heap.size rq (some ⟨wi.heap.size, 0, none⟩) 1 [k] (wi.alloc (.cells #[.int .i64 k] 3)) HSa.out.1 (blk_nrow kba) (by simp) (by simp)
        rw [mayE_one] at MY1
        have HC := has_c A1 c1' (leftN rq (rq).length) k (wi.alloc (.cells #[.int .i64 k] 3)) (own_nrow HSa.out.2.2.1) (by have := hLq.out; omega)
        obtain ⟨wj, hwj⟩ : ∃ z, wi.alloc (.cells #[.int .i64 k] 3) = z := ⟨_, rfl⟩
        rw [hwj] at HSa MY1 HC
        have hbb := (Below.refl wj.heap.size wj).alloc (Nat.le_refl _) (.cells #[.int .i64 k, .int .i64 k] 3)
        have kbb := Blk.new wj 3 #[.int .i64 k, .int .i64 k]
        have HSz := hide (HSa.out.below hbb)
        have MY2 := May_c T W.heap.size rq (some ⟨wj.heap.size, 0, none⟩) 2 [k, k] (wj.alloc (.cells #[.int .i64 k, .int .i64 k] 3)) HSz.out.1 (blk_nrow kbb) (by simp) (by simp)
        rw [mayE_two] at MY2
        have HM2 := hide MY2
        clear hba kba hbb kbb MY2 y2 FC HMC BXi
        by_cases hin : k ∈ leftN rq (rq).length
        · rw [if_pos hin] at MY1
          rw [decide_eq_true hin] at HC
          have HM1 := hide MY1
          have HCC := hide HC
          clear MY1 HC hin
          go_wp2_with fail
          refine HM1.out.mono ?_
          rintro e w' ⟨rfl, rfl⟩
          go_wp2_with fail
          refine HCC.out.mono ?_
          rintro e w' ⟨rfl, rfl⟩
          go_wp2_with fail
          refine HM2.out.mono ?_
          rintro e w' ⟨rfl, rfl⟩
          go_wp2_with fail
          go_roundw
          case rel => exact ⟨i + 1, by omega, by go_num, rq, A1, c1', rfl, by rw [hM.out], HSz⟩
          case measure => simp [RowKit.intOf] <;> omega
        · rw [if_neg hin] at MY1
          rw [decide_eq_false hin] at HC
          have HM1 := hide MY1
          have HCC := hide HC
          clear MY1 HC hin
          go_wp2_with fail
          refine HM1.out.mono ?_
          rintro e w' ⟨rfl, rfl⟩
          go_wp2_with fail
          refine HCC.out.mono ?_
          rintro e w' ⟨rfl, rfl⟩
          go_wp2_with fail
          refine HM2.out.mono ?_
          rintro e w' ⟨rfl, rfl⟩
          go_wp2_with fail
          go_roundw
          case rel => exact ⟨i + 1, by omega, by go_num, rq, A1, c1', rfl, by rw [hM.out], HSz⟩
          case measure => simp [RowKit.intOf] <;> omega
    · -- an Add
      clear hX
      have hTT := HSb.out.1.lt
      by_cases hfull : rs.length = 256
      · have AC := hide (Add_full T W.heap.size rs yes true wb HSb.out.1 hfull)
        have HS9 := HSb
        have BX9 := BX
        clear hfull
        go_wp2_with fail
        refine AC.out.mono ?_
        rintro e wx ⟨rfl, rfl⟩
        clear z0 z1 z2 z3 z4 z5 f0 f1 f2 f3 f4 f5 c0 c1 c2 c3 c4 c5 y0 y1 y2 HSb BX AC hwa hwb
        obtain ⟨wx, hwx⟩ : ∃ z, wb = z := ⟨_, rfl⟩
        rw [hwx] at HS9 BX9 ⊢
        clear hwx
        have LF := hide (Left_c T W.heap.size rs wx HS9.out.1)
        go_wp2_with fail
        refine LF.out.mono ?_
        rintro e wl ⟨A9, c9, rfl, ho9, hb9⟩
        have HSl := hide (HS9.out.below hb9)
        have BXl := hide (BX9.out.below hb9 BX9.out.lt)
        have hlb := Nat.le_trans (leftN_len rs (rs).length) HS9.out.2.2.2.2.2
        have IC := hide (Grp.Ints_b A9 AL c9 c (leftN rs (rs).length) (leftN rs (rs).length) wl (own_nrow ho9) (own_nrow HSl.out.2.2.1) (by omega) (by omega))
        rw [decide_eq_true rfl] at IC
        have hLq := hide hlb
        clear ho9 hb9 LF HS9 BX9 hlb
        go_wp2_with fail
        refine IC.out.mono ?_
        rintro e wi ⟨rfl, hbi⟩
        have HSi := hide (HSl.out.below hbi)
        have BXi := hide (BXl.out.below hbi BXl.out.lt)
        have MC := Many_c T W.heap.size rs wi HSi.out.1
        have HMC := hide MC
        have y2 : wi.cell? ⟨wr.heap.size, 2, none⟩ = some (.slice xA xl.length xcap) := BXi.out.cell 2
        have FC := hide (first_c xA xcap xl wi (HXR.out.below HSi.out.2.2.2.1))
        have mm1 : ((rs.length : Int) == (rs.length : Int)) = true := by simp
        have mm2 : ((rs.length : Int) != (rs.length : Int)) = false := by simp
        clear hbi IC HSl BXl MC
        go_wp2_with fail
        refine HMC.out.mono ?_
        rintro e w' ⟨rfl, rfl⟩
        go_wp2_with fail
        refine FC.out.mono ?_
        rintro e w' ⟨rfl, rfl⟩
        generalize firstN xl = k
        have hba := (Below.refl wi.heap.size wi).alloc (Nat.le_refl _) (.cells #[.int .i64 k] 3)
        have kba := Blk.new wi 3 #[.int .i64 k]
        have HSa := hide (HSi.out.below hba)
        have MY1 := May_c T W.heap.size rs (some ⟨wi.heap.size, 0, none⟩) 1 [k] (wi.alloc (.cells #[.int .i64 k] 3)) HSa.out.1 (blk_nrow kba) (by simp) (by simp)
        rw [mayE_one] at MY1
        have HC := has_c AL c (leftN rs (rs).length) k (wi.alloc (.cells #[.int .i64 k] 3)) (own_nrow HSa.out.2.2.1) (by have := hLq.out; omega)
        obtain ⟨wj, hwj⟩ : ∃ z, wi.alloc (.cells #[.int .i64 k] 3) = z := ⟨_, rfl⟩
        rw [hwj] at HSa MY1 HC
        have hbb := (Below.refl wj.heap.size wj).alloc (Nat.le_refl _) (.cells #[.int .i64 k, .int .i64 k] 3)
        have kbb := Blk.new wj 3 #[.int .i64 k, .int .i64 k]
        have HSz := hide (HSa.out.below hbb)
        have MY2 := May_c T W.heap.size rs (some ⟨wj.heap.size, 0, none⟩) 2 [k, k] (wj.alloc (.cells #[.int .i64 k, .int .i64 k] 3)) HSz.out.1 (blk_nrow kbb) (by simp) (by simp)
        rw [mayE_two] at MY2
        have HM2 := hide MY2
        clear hba kba hbb kbb MY2 y2 FC HMC BXi
        by_cases hin : k ∈ leftN rs (rs).length
        · rw [if_pos hin] at MY1
          rw [decide_eq_true hin] at HC
          have HM1 := hide MY1
          have HCC := hide HC
          clear MY1 HC hin
          go_wp2_with fail
          refine HM1.out.mono ?_
          rintro e w' ⟨rfl, rfl⟩
          go_wp2_with fail
          refine HCC.out.mono ?_
          rintro e w' ⟨rfl, rfl⟩
          go_wp2_with fail
          refine HM2.out.mono ?_
          rintro e w' ⟨rfl, rfl⟩
          go_wp2_with fail
          go_roundw
          case rel => exact ⟨i + 1, by omega, by go_num, rs, AL, c, rfl, rfl, HSz⟩
          case measure => simp [RowKit.intOf] <;> omega
        · rw [if_neg hin] at MY1
          rw [decide_eq_false hin] at HC
          have HM1 := hide MY1
          have HCC := hide HC
          clear MY1 HC hin
          go_wp2_with fail
          refine HM1.out.mono ?_
          rintro e w' ⟨rfl, rfl⟩
          go_wp2_with fail
          refine HCC.out.mono ?_
          rintro e w' ⟨rfl, rfl⟩
          go_wp2_with fail
          refine HM2.out.mono ?_
          rintro e w' ⟨rfl, rfl⟩
          go_wp2_with fail
          go_roundw
          case rel => exact ⟨i + 1, by omega, by go_num, rs, AL, c, rfl, rfl, HSz⟩
          case measure => simp [RowKit.intOf] <;> omega
      · have hlt2 : rs.length < 256 := by omega
        have AC := hide (Add_yes T W.heap.size rs yes true wb HSb.out.1 hlt2)
        clear hfull
        go_wp2_with fail
        refine AC.out.mono ?_
        rintro e wx0 ⟨rfl, hpx, hbx, hkx⟩
        have hox := KeepsBut.own hkx HSb.out.2.2.1 (by decide)
        have hbx2 := HSb.out.2.2.2.1.trans hbx
        have bx2 := KeepsBut.blk hkx BX.out (by decide)
        obtain ⟨A1, c1', wx, hrun, hown, hbel, hky⟩ := push_int wx0 W.heap.size AL c (leftN rs rs.length).length (leftN rs rs.length) (rs.length : Int) rfl hox hbx2.size (by have := leftN_len rs rs.length; omega)
        have hla := leftN_add rs ⟨yes, true, false, 0, 0, 0⟩ rfl
        have hll : (leftN rs rs.length).length + 1 = (leftN (rs ++ [⟨yes, true, false, 0, 0, 0⟩]) (rs ++ [(⟨yes, true, false, 0, 0, 0⟩ : Rq)]).length).length := by rw [hla, List.length_append, List.length_singleton]
        have HS9 : Hid (St W wx T (rs ++ [⟨yes, true, false, 0, 0, 0⟩]) A1 c1') := hide ⟨hpx.keep hky (by decide) (by decide), hTw, by rw [← hll, hla]; exact hown, hbx2.trans hbel, fun q hq => by
          rcases List.mem_append.1 hq with h | h
          · exact HDN.out q h
          · rw [List.mem_singleton.1 h], by rw [List.length_append, List.length_singleton]; omega⟩
        have BX9 := hide (KeepsBut.blk hky bx2 (by decide))
        have RUN := hide hrun
        have HLL := hide hll
        have hM : Hid ((((rs ++ [(⟨yes, true, false, 0, 0, 0⟩ : Rq)]).length : Nat) : Int) = (rs.length : Int) + 1) := hide (by simp)
        have hrI : (rs.length : Int) < 256 := by omega
        clear z0 z1 z2 z3 z4 z5 f0 f1 f2 f3 f4 f5 c0 c1 c2 c3 c4 c5 y0 y1 y2 HSb BX AC hwa hwb hpx hbx hkx hox hbx2 bx2 hrun hown hbel hky hla hll
        go_wp2_with (at_builtin; refine Lib.wpList_append_run _ rfl _ _ 27 27 rfl _ _ rfl rfl _ _ RUN.out ?_)
        rw [HLL.out]
        clear HLL
        generalize rs ++ [(⟨yes, true, false, 0, 0, 0⟩ : Rq)] = rq at *
        have LF := hide (Left_c T W.heap.size rq wx HS9.out.1)
        refine LF.out.mono ?_
        rintro e wl ⟨A9, c9, rfl, ho9, hb9⟩
        have HSl := hide (HS9.out.below hb9)
        have BXl := hide (BX9.out.below hb9 BX9.out.lt)
        have hlb := Nat.le_trans (leftN_len rq (rq).length) HS9.out.2.2.2.2.2
        have IC := hide (Grp.Ints_b A9 A1 c9 c1' (leftN rq (rq).length) (leftN rq (rq).length) wl (own_nrow ho9) (own_nrow HSl.out.2.2.1) (by omega) (by omega))
        rw [decide_eq_true rfl] at IC
        have hLq := hide hlb
        clear ho9 hb9 LF HS9 BX9 hlb
        go_wp2_with fail
        refine IC.out.mono ?_
        rintro e wi ⟨rfl, hbi⟩
        have HSi := hide (HSl.out.below hbi)
        have BXi := hide (BXl.out.below hbi BXl.out.lt)
        have MC := Many_c T W.heap.size rq wi HSi.out.1
        rw [hM.out] at MC
        have HMC := hide MC
        have y2 : wi.cell? ⟨wr.heap.size, 2, none⟩ = some (.slice xA xl.length xcap) := BXi.out.cell 2
        have FC := hide (first_c xA xcap xl wi (HXR.out.below HSi.out.2.2.2.1))
        have mm1 : (((rs.length : Int) + 1) == ((rs.length : Int) + 1)) = true := by simp
        have mm2 : (((rs.length : Int) + 1) != ((rs.length : Int) + 1)) = false := by simp
        clear hbi IC HSl BXl MC
        go_wp2_with fail
        refine HMC.out.mono ?_
        rintro e w' ⟨rfl, rfl⟩
        go_wp2_with fail
        refine FC.out.mono ?_
        rintro e w' ⟨rfl, rfl⟩
        generalize firstN xl = k
        have hba := (Below.refl wi.heap.size wi).alloc (Nat.le_refl _) (.cells #[.int .i64 k] 3)
        have kba := Blk.new wi 3 #[.int .i64 k]
        have HSa := hide (HSi.out.below hba)
        have MY1 := May_c T W.heap.size rq (some ⟨wi.heap.size, 0, none⟩) 1 [k] (wi.alloc (.cells #[.int .i64 k] 3)) HSa.out.1 (blk_nrow kba) (by simp) (by simp)
        rw [mayE_one] at MY1
        have HC := has_c A1 c1' (leftN rq (rq).length) k (wi.alloc (.cells #[.int .i64 k] 3)) (own_nrow HSa.out.2.2.1) (by have := hLq.out; omega)
        obtain ⟨wj, hwj⟩ : ∃ z, wi.alloc (.cells #[.int .i64 k] 3) = z := ⟨_, rfl⟩
        rw [hwj] at HSa MY1 HC
        have hbb := (Below.refl wj.heap.size wj).alloc (Nat.le_refl _) (.cells #[.int .i64 k, .int .i64 k] 3)
        have kbb := Blk.new wj 3 #[.int .i64 k, .int .i64 k]
        have HSz := hide (HSa.out.below hbb)
        have MY2 := May_c T W.heap.size rq (some ⟨wj.heap.size, 0, none⟩) 2 [k, k] (wj.alloc (.cells #[.int .i64 k, .int .i64 k] 3)) HSz.out.1 (blk_nrow kbb) (by simp) (by simp)
        rw [mayE_two] at MY2
        have HM2 := hide MY2
        clear hba kba hbb kbb MY2 y2 FC HMC BXi
        by_cases hin : k ∈ leftN rq (rq).length
        · rw [if_pos hin] at MY1
          rw [decide_eq_true hin] at HC
          have HM1 := hide MY1
          have HCC := hide HC
          clear MY1 HC hin
          go_wp2_with fail
          refine HM1.out.mono ?_
          rintro e w' ⟨rfl, rfl⟩
          go_wp2_with fail
          refine HCC.out.mono ?_
          rintro e w' ⟨rfl, rfl⟩
          go_wp2_with fail
          refine HM2.out.mono ?_
          rintro e w' ⟨rfl, rfl⟩
          go_wp2_with fail
          go_roundw
          case rel => exact ⟨i + 1, by omega, by go_num, rq, A1, c1', rfl, by rw [hM.out], HSz⟩
          case measure => simp [RowKit.intOf] <;> omega
        · rw [if_neg hin] at MY1
          rw [decide_eq_false hin] at HC
          have HM1 := hide MY1
          have HCC := hide HC
          clear MY1 HC hin
          go_wp2_with fail
          refine HM1.out.mono ?_
          rintro e w' ⟨rfl, rfl⟩
          go_wp2_with fail
          refine HCC.out.mono ?_
          rintro e w' ⟨rfl, rfl⟩
          go_wp2_with fail
          refine HM2.out.mono ?_
          rintro e w' ⟨rfl, rfl⟩
          go_wp2_with fail
          go_roundw
          case rel => exact ⟨i + 1, by omega, by go_num, rq, A1, c1', rfl, by rw [hM.out], HSz⟩
          case measure => simp [RowKit.intOf] <;> omega
    · -- a Take
      clear hX
      have TC := hide (Take_c T W.heap.size rs xA xcap xl wb HSb.out.1 (HXR.out.below HSb.out.2.2.2.1) (fun h0 => HSb.out.1.apart2 (HLW.out.2 h0)) (by have := HXL.out; omega) HLW.out.1)
      go_wp2_with fail
      refine TC.out.mono ?_
      clear TC z0 z1 z2 z3 z4 z5 f0 f1 f2 f3 f4 f5 c0 c1 c2 c3 c4 c5 hwa hwb
      rintro e wx (⟨htk, A2, c2', rfl, _, hpx, hbx, hkx⟩ | ⟨hn2, rfl, hbx⟩)
      · have hall := (take_all rs xl HDN.out).1 htk
        have hrp : 0 < rs.length := by
          obtain ⟨y, hy⟩ := List.exists_mem_of_length_pos (show 0 < xl.length from htk.1.1)
          obtain ⟨q1, q2, _⟩ := htk.1.2.2.1 y hy
          omega
        have hox := KeepsBut.own hkx HSb.out.2.2.1 (by decide)
        have hbx2 := HSb.out.2.2.2.1.trans hbx
        have BXx := hide (KeepsBut.blk hkx BX.out (by decide))
        have hnn : ∀ x ∈ xl, 0 ≤ x := fun x hx => (htk.1.2.2.1 x hx).1
        have htl := takR_len (xl.map Int.toNat) rs
        have hlt := leftN_tak rs xl hnn rs.length (Nat.le_refl _)
        have MC0 := Many_c T W.heap.size (takR rs (xl.map Int.toNat)) wx hpx
        rw [htl] at MC0
        have HMC0 := hide MC0
        have AC := all_c AL xA c xcap (leftN rs rs.length) xl wx (own_nrow hox) (HXR.out.below hbx2) (by have := leftN_len rs rs.length; omega) (by have := HXL.out; omega) HLW.out.1
        rw [decide_eq_true hall] at AC
        have HAC := hide AC
        have HOX := hide hox
        have HBX2 := hide hbx2
        have HPX := hide hpx
        have HTL := hide htl
        have HLT := hide hlt
        have hrI : (0 : Int) < (rs.length : Int) := by omega
        have y2 : wx.cell? ⟨wr.heap.size, 2, none⟩ = some (.slice xA xl.length xcap) := BXx.out.cell 2
        clear htk hall hpx hbx hkx hox hbx2 hnn htl hlt MC0 AC hrp HSb BX y0 y1
        go_wp2_with fail
        refine HMC0.out.mono ?_
        rintro e w' ⟨rfl, rfl⟩
        go_wp2_with fail
        refine HAC.out.mono ?_
        rintro e wy ⟨rfl, hby⟩
        have BXy := hide (BXx.out.below hby BXx.out.lt)
        have y2 : wy.cell? ⟨wr.heap.size, 2, none⟩ = some (.slice xA xl.length xcap) := BXy.out.cell 2
        have HOY := hide (own_belowR HOX.out hby)
        have HBY := hide (HBX2.out.trans (hby.mono HBX2.out.size))
        have HPY := hide (HPX.out.below hby)
        have WC := hide (without_c AL xA c xcap (leftN rs rs.length) xl wy (own_nrow HOY.out) (HXR.out.below HBY.out) (by have := leftN_len rs rs.length; omega) (by have := HXL.out; omega))
        clear hby HMC0 HAC HOX HBX2 HPX BXx
        go_wp2_with fail
        refine WC.out.mono ?_
        rintro e wx2 ⟨A3, c3', rfl, ho3, hb3⟩
        have HLL : Hid ((withoutL (leftN rs rs.length) xl).length = (leftN (takR rs (xl.map Int.toNat)) (takR rs (xl.map Int.toNat)).length).length) := hide (by rw [HTL.out, HLT.out])
        have HS9 : Hid (St W wx2 T (takR rs (xl.map Int.toNat)) A3 c3') := hide ⟨HPY.out.below hb3, hTw, by rw [HTL.out, HLT.out]; exact own_more ho3 HBY.out.size, HBY.out.trans (hb3.mono HBY.out.size), takR_done _ rs HDN.out, by rw [HTL.out]; exact hl256⟩
        have BX9 := hide (BXy.out.below hb3 BXy.out.lt)
        have hM : Hid ((((takR rs (xl.map Int.toNat)).length : Nat) : Int) = (rs.length : Int)) := hide (by rw [HTL.out])
        rw [HLL.out]
        obtain ⟨wx, hwx⟩ : ∃ z, wx2 = z := ⟨_, rfl⟩
        rw [hwx] at HS9 BX9 ⊢
        clear hwx ho3 hb3 HPY HBY HOY WC BXy y2 HLL HTL HLT
        generalize takR rs (xl.map Int.toNat) = rq at *
        have LF := hide (Left_c T W.heap.size rq wx HS9.out.1)
        go_wp2_with fail
        refine LF.out.mono ?_
        rintro e wl ⟨A9, c9, rfl, ho9, hb9⟩
        have HSl := hide (HS9.out.below hb9)
        have BXl := hide (BX9.out.below hb9 BX9.out.lt)
        have hlb := Nat.le_trans (leftN_len rq (rq).length) HS9.out.2.2.2.2.2
        have IC := hide (Grp.Ints_b A9 A3 c9 c3' (leftN rq (rq).length) (leftN rq (rq).length) wl (own_nrow ho9) (own_nrow HSl.out.2.2.1) (by omega) (by omega))
        rw [decide_eq_true rfl] at IC
        have hLq := hide hlb
        clear ho9 hb9 LF HS9 BX9 hlb
        go_wp2_with fail
        refine IC.out.mono ?_
        rintro e wi ⟨rfl, hbi⟩
        have HSi := hide (HSl.out.below hbi)
        have BXi := hide (BXl.out.below hbi BXl.out.lt)
        have MC := Many_c T W.heap.size rq wi HSi.out.1
        rw [hM.out] at MC
        have HMC := hide MC
        have y2 : wi.cell? ⟨wr.heap.size, 2, none⟩ = some (.slice xA xl.length xcap) := BXi.out.cell 2
        have FC := hide (first_c xA xcap xl wi (HXR.out.below HSi.out.2.2.2.1))
        have mm1 : ((rs.length : Int) == (rs.length : Int)) = true := by simp
        have mm2 : ((rs.length : Int) != (rs.length : Int)) = false := by simp
        clear hbi IC HSl BXl MC
        go_wp2_with fail
        refine HMC.out.mono ?_
        rintro e w' ⟨rfl, rfl⟩
        go_wp2_with fail
        refine FC.out.mono ?_
        rintro e w' ⟨rfl, rfl⟩
        generalize firstN xl = k
        have hba := (Below.refl wi.heap.size wi).alloc (Nat.le_refl _) (.cells #[.int .i64 k] 3)
        have kba := Blk.new wi 3 #[.int .i64 k]
        have HSa := hide (HSi.out.below hba)
        have MY1 := May_c T W.heap.size rq (some ⟨wi.heap.size, 0, none⟩) 1 [k] (wi.alloc (.cells #[.int .i64 k] 3)) HSa.out.1 (blk_nrow kba) (by simp) (by simp)
        rw [mayE_one] at MY1
        have HC := has_c A3 c3' (leftN rq (rq).length) k (wi.alloc (.cells #[.int .i64 k] 3)) (own_nrow HSa.out.2.2.1) (by have := hLq.out; omega)
        obtain ⟨wj, hwj⟩ : ∃ z, wi.alloc (.cells #[.int .i64 k] 3) = z := ⟨_, rfl⟩
        rw [hwj] at HSa MY1 HC
        have hbb := (Below.refl wj.heap.size wj).alloc (Nat.le_refl _) (.cells #[.int .i64 k, .int .i64 k] 3)
        have kbb := Blk.new wj 3 #[.int .i64 k, .int .i64 k]
        have HSz := hide (HSa.out.below hbb)
        have MY2 := May_c T W.heap.size rq (some ⟨wj.heap.size, 0, none⟩) 2 [k, k] (wj.alloc (.cells #[.int .i64 k, .int .i64 k] 3)) HSz.out.1 (blk_nrow kbb) (by simp) (by simp)
        rw [mayE_two] at MY2
        have HM2 := hide MY2
        clear hba kba hbb kbb MY2 y2 FC HMC BXi
        by_cases hin : k ∈ leftN rq (rq).length
        · rw [if_pos hin] at MY1
          rw [decide_eq_true hin] at HC
          have HM1 := hide MY1
          have HCC := hide HC
          clear MY1 HC hin
          go_wp2_with fail
          refine HM1.out.mono ?_
          rintro e w' ⟨rfl, rfl⟩
          go_wp2_with fail
          refine HCC.out.mono ?_
          rintro e w' ⟨rfl, rfl⟩
          go_wp2_with fail
          refine HM2.out.mono ?_
          rintro e w' ⟨rfl, rfl⟩
          go_wp2_with fail
          go_roundw
          case rel => exact ⟨i + 1, by omega, by go_num, rq, A3, c3', rfl, by rw [hM.out], HSz⟩
          case measure => simp [RowKit.intOf] <;> omega
        · rw [if_neg hin] at MY1
          rw [decide_eq_false hin] at HC
          have HM1 := hide MY1
          have HCC := hide HC
          clear MY1 HC hin
          go_wp2_with fail
          refine HM1.out.mono ?_
          rintro e w' ⟨rfl, rfl⟩
          go_wp2_with fail
          refine HCC.out.mono ?_
          rintro e w' ⟨rfl, rfl⟩
          go_wp2_with fail
          refine HM2.out.mono ?_
          rintro e w' ⟨rfl, rfl⟩
          go_wp2_with fail
          go_roundw
          case rel => exact ⟨i + 1, by omega, by go_num, rq, A3, c3', rfl, by rw [hM.out], HSz⟩
          case measure => simp [RowKit.intOf] <;> omega
      · have hall : ¬ allT (leftN rs rs.length) xl := fun h => hn2 ((take_all rs xl HDN.out).2 h)
        have HSx := hide (HSb.out.below hbx)
        have BXx := hide (BX.out.below hbx BX.out.lt)
        have HMC0 := hide (Many_c T W.heap.size rs wx HSx.out.1)
        have AC := all_c AL xA c xcap (leftN rs rs.length) xl wx (own_nrow HSx.out.2.2.1) (HXR.out.below HSx.out.2.2.2.1) (by have := leftN_len rs rs.length; omega) (by have := HXL.out; omega) HLW.out.1
        rw [decide_eq_false hall] at AC
        have HAC := hide AC
        have y2 : wx.cell? ⟨wr.heap.size, 2, none⟩ = some (.slice xA xl.length xcap) := BXx.out.cell 2
        clear hall hn2 hbx AC HSb BX y0 y1
        by_cases hrp : 0 < rs.length
        · have hrI : (0 : Int) < (rs.length : Int) := by omega
          go_wp2_with fail
          refine HMC0.out.mono ?_
          rintro e w' ⟨rfl, rfl⟩
          go_wp2_with fail
          refine HAC.out.mono ?_
          rintro e wy ⟨rfl, hby⟩
          have HS9 := hide (HSx.out.below hby)
          have BX9 := hide (BXx.out.below hby BXx.out.lt)
          obtain ⟨wx, hwx⟩ : ∃ z, wy = z := ⟨_, rfl⟩
          rw [hwx] at HS9 BX9 ⊢
          clear hwx hby HSx BXx HMC0 HAC y2
          have LF := hide (Left_c T W.heap.size rs wx HS9.out.1)
          go_wp2_with fail
          refine LF.out.mono ?_
          rintro e wl ⟨A9, c9, rfl, ho9, hb9⟩
          have HSl := hide (HS9.out.below hb9)
          have BXl := hide (BX9.out.below hb9 BX9.out.lt)
          have hlb := Nat.le_trans (leftN_len rs (rs).length) HS9.out.2.2.2.2.2
          have IC := hide (Grp.Ints_b A9 AL c9 c (leftN rs (rs).length) (leftN rs (rs).length) wl (own_nrow ho9) (own_nrow HSl.out.2.2.1) (by omega) (by omega))
          rw [decide_eq_true rfl] at IC
          have hLq := hide hlb
          clear ho9 hb9 LF HS9 BX9 hlb
          go_wp2_with fail
          refine IC.out.mono ?_
          rintro e wi ⟨rfl, hbi⟩
          have HSi := hide (HSl.out.below hbi)
          have BXi := hide (BXl.out.below hbi BXl.out.lt)
          have MC := Many_c T W.heap.size rs wi HSi.out.1
          have HMC := hide MC
          have y2 : wi.cell? ⟨wr.heap.size, 2, none⟩ = some (.slice xA xl.length xcap) := BXi.out.cell 2
          have FC := hide (first_c xA xcap xl wi (HXR.out.below HSi.out.2.2.2.1))
          have mm1 : ((rs.length : Int) == (rs.length : Int)) = true := by simp
          have mm2 : ((rs.length : Int) != (rs.length : Int)) = false := by simp
          clear hbi IC HSl BXl MC
          go_wp2_with fail
          refine HMC.out.mono ?_
          rintro e w' ⟨rfl, rfl⟩
          go_wp2_with fail
          refine FC.out.mono ?_
          rintro e w' ⟨rfl, rfl⟩
          generalize firstN xl = k
          have hba := (Below.refl wi.heap.size wi).alloc (Nat.le_refl _) (.cells #[.int .i64 k] 3)
          have kba := Blk.new wi 3 #[.int .i64 k]
          have HSa := hide (HSi.out.below hba)
          have MY1 := May_c T W.heap.size rs (some ⟨wi.heap.size, 0, none⟩) 1 [k] (wi.alloc (.cells #[.int .i64 k] 3)) HSa.out.1 (blk_nrow kba) (by simp) (by simp)
          rw [mayE_one] at MY1
          have HC := has_c AL c (leftN rs (rs).length) k (wi.alloc (.cells #[.int .i64 k] 3)) (own_nrow HSa.out.2.2.1) (by have := hLq.out; omega)
          obtain ⟨wj, hwj⟩ : ∃ z, wi.alloc (.cells #[.int .i64 k] 3) = z := ⟨_, rfl⟩
          rw [hwj] at HSa MY1 HC
          have hbb := (Below.refl wj.heap.size wj).alloc (Nat.le_refl _) (.cells #[.int .i64 k, .int .i64 k] 3)
          have kbb := Blk.new wj 3 #[.int .i64 k, .int .i64 k]
          have HSz := hide (HSa.out.below hbb)
          have MY2 := May_c T W.heap.size rs (some ⟨wj.heap.size, 0, none⟩) 2 [k, k] (wj.alloc (.cells #[.int .i64 k, .int .i64 k] 3)) HSz.out.1 (blk_nrow kbb) (by simp) (by simp)
          rw [mayE_two] at MY2
          have HM2 := hide MY2
          clear hba kba hbb kbb MY2 y2 FC HMC BXi
          by_cases hin : k ∈ leftN rs (rs).length
          · rw [if_pos hin] at MY1
            rw [decide_eq_true hin] at HC
            have HM1 := hide MY1
            have HCC := hide HC
            clear MY1 HC hin
            go_wp2_with fail
            refine HM1.out.mono ?_
            rintro e w' ⟨rfl, rfl⟩
            go_wp2_with fail
            refine HCC.out.mono ?_
            rintro e w' ⟨rfl, rfl⟩
            go_wp2_with fail
            refine HM2.out.mono ?_
            rintro e w' ⟨rfl, rfl⟩
            go_wp2_with fail
            go_roundw
            case rel => exact ⟨i + 1, by omega, by go_num, rs, AL, c, rfl, rfl, HSz⟩
            case measure => simp [RowKit.intOf] <;> omega
          · rw [if_neg hin] at MY1
            rw [decide_eq_false hin] at HC
            have HM1 := hide MY1
            have HCC := hide HC
            clear MY1 HC hin
            go_wp2_with fail
            refine HM1.out.mono ?_
            rintro e w' ⟨rfl, rfl⟩
            go_wp2_with fail
            refine HCC.out.mono ?_
            rintro e w' ⟨rfl, rfl⟩
            go_wp2_with fail
            refine HM2.out.mono ?_
            rintro e w' ⟨rfl, rfl⟩
            go_wp2_with fail
            go_roundw
            case rel => exact ⟨i + 1, by omega, by go_num, rs, AL, c, rfl, rfl, HSz⟩
            case measure => simp [RowKit.intOf] <;> omega
        · have hrI : ¬ (0 : Int) < (rs.length : Int) := by omega
          have HS9 := HSx
          have BX9 := BXx
          go_wp2_with fail
          refine HMC0.out.mono ?_
          rintro e w' ⟨rfl, rfl⟩
          clear HSx BXx HMC0 HAC y2
          have LF := hide (Left_c T W.heap.size rs wx HS9.out.1)
          go_wp2_with fail
          refine LF.out.mono ?_
          rintro e wl ⟨A9, c9, rfl, ho9, hb9⟩
          have HSl := hide (HS9.out.below hb9)
          have BXl := hide (BX9.out.below hb9 BX9.out.lt)
          have hlb := Nat.le_trans (leftN_len rs (rs).length) HS9.out.2.2.2.2.2
          have IC := hide (Grp.Ints_b A9 AL c9 c (leftN rs (rs).length) (leftN rs (rs).length) wl (own_nrow ho9) (own_nrow HSl.out.2.2.1) (by omega) (by omega))
          rw [decide_eq_true rfl] at IC
          have hLq := hide hlb
          clear ho9 hb9 LF HS9 BX9 hlb
          go_wp2_with fail
          refine IC.out.mono ?_
          rintro e wi ⟨rfl, hbi⟩
          have HSi := hide (HSl.out.below hbi)
          have BXi := hide (BXl.out.below hbi BXl.out.lt)
          have MC := Many_c T W.heap.size rs wi HSi.out.1
          have HMC := hide MC
          have y2 : wi.cell? ⟨wr.heap.size, 2, none⟩ = some (.slice xA xl.length xcap) := BXi.out.cell 2
          have FC := hide (first_c xA xcap xl wi (HXR.out.below HSi.out.2.2.2.1))
          have mm1 : ((rs.length : Int) == (rs.length : Int)) = true := by simp
          have mm2 : ((rs.length : Int) != (rs.length : Int)) = false := by simp
          clear hbi IC HSl BXl MC
          go_wp2_with fail
          refine HMC.out.mono ?_
          rintro e w' ⟨rfl, rfl⟩
          go_wp2_with fail
          refine FC.out.mono ?_
          rintro e w' ⟨rfl, rfl⟩
          generalize firstN xl = k
          have hba := (Below.refl wi.heap.size wi).alloc (Nat.le_refl _) (.cells #[.int .i64 k] 3)
          have kba := Blk.new wi 3 #[.int .i64 k]
          have HSa := hide (HSi.out.below hba)
          have MY1 := May_c T W.heap.size rs (some ⟨wi.heap.size, 0, none⟩) 1 [k] (wi.alloc (.cells #[.int .i64 k] 3)) HSa.out.1 (blk_nrow kba) (by simp) (by simp)
          rw [mayE_one] at MY1
          have HC := has_c AL c (leftN rs (rs).length) k (wi.alloc (.cells #[.int .i64 k] 3)) (own_nrow HSa.out.2.2.1) (by have := hLq.out; omega)
          obtain ⟨wj, hwj⟩ : ∃ z, wi.alloc (.cells #[.int .i64 k] 3) = z := ⟨_, rfl⟩
          rw [hwj] at HSa MY1 HC
          have hbb := (Below.refl wj.heap.size wj).alloc (Nat.le_refl _) (.cells #[.int .i64 k, .int .i64 k] 3)
          have kbb := Blk.new wj 3 #[.int .i64 k, .int .i64 k]
          have HSz := hide (HSa.out.below hbb)
          have MY2 := May_c T W.heap.size rs (some ⟨wj.heap.size, 0, none⟩) 2 [k, k] (wj.alloc (.cells #[.int .i64 k, .int .i64 k] 3)) HSz.out.1 (blk_nrow kbb) (by simp) (by simp)
          rw [mayE_two] at MY2
          have HM2 := hide MY2
          clear hba kba hbb kbb MY2 y2 FC HMC BXi
          by_cases hin : k ∈ leftN rs (rs).length
          · rw [if_pos hin] at MY1
            rw [decide_eq_true hin] at HC
            have HM1 := hide MY1
            have HCC := hide HC
            clear MY1 HC hin
            go_wp2_with fail
            refine HM1.out.mono ?_
            rintro e w' ⟨rfl, rfl⟩
            go_wp2_with fail
            refine HCC.out.mono ?_
            rintro e w' ⟨rfl, rfl⟩
            go_wp2_with fail
            refine HM2.out.mono ?_
            rintro e w' ⟨rfl, rfl⟩
            go_wp2_with fail
            go_roundw
            case rel => exact ⟨i + 1, by omega, by go_num, rs, AL, c, rfl, rfl, HSz⟩
            case measure => simp [RowKit.intOf] <;> omega
          · rw [if_neg hin] at MY1
            rw [decide_eq_false hin] at HC
            have HM1 := hide MY1
            have HCC := hide HC
            clear MY1 HC hin
            go_wp2_with fail
            refine HM1.out.mono ?_
            rintro e w' ⟨rfl, rfl⟩
            go_wp2_with fail
            refine HCC.out.mono ?_
            rintro e w' ⟨rfl, rfl⟩
            go_wp2_with fail
            refine HM2.out.mono ?_
            rintro e w' ⟨rfl, rfl⟩
            go_wp2_with fail
            go_roundw
            case rel => exact ⟨i + 1, by omega, by go_num, rs, AL, c, rfl, rfl, HSz⟩
            case measure => simp [RowKit.intOf] <;> omega
    · -- a Take
      clear hX
      have TC := hide (Take_c T W.heap.size rs xA xcap xl wb HSb.out.1 (HXR.out.below HSb.out.2.2.2.1) (fun h0 => HSb.out.1.apart2 (HLW.out.2 h0)) (by have := HXL.out; omega) HLW.out.1)
      go_wp2_with fail
      refine TC.out.mono ?_
      clear TC z0 z1 z2 z3 z4 z5 f0 f1 f2 f3 f4 f5 c0 c1 c2 c3 c4 c5 hwa hwb
      rintro e wx (⟨htk, A2, c2', rfl, _, hpx, hbx, hkx⟩ | ⟨hn2, rfl, hbx⟩)
      · have hall := (take_all rs xl HDN.out).1 htk
        have hrp : 0 < rs.length := by
          obtain ⟨y, hy⟩ := List.exists_mem_of_length_pos (show 0 < xl.length from htk.1.1)
          obtain ⟨q1, q2, _⟩ := htk.1.2.2.1 y hy
          omega
        have hox := KeepsBut.own hkx HSb.out.2.2.1 (by decide)
        have hbx2 := HSb.out.2.2.2.1.trans hbx
        have BXx := hide (KeepsBut.blk hkx BX.out (by decide))
        have hnn : ∀ x ∈ xl, 0 ≤ x := fun x hx => (htk.1.2.2.1 x hx).1
        have htl := takR_len (xl.map Int.toNat) rs
        have hlt := leftN_tak rs xl hnn rs.length (Nat.le_refl _)
        have MC0 := Many_c T W.heap.size (takR rs (xl.map Int.toNat)) wx hpx
        rw [htl] at MC0
        have HMC0 := hide MC0
        have AC := all_c AL xA c xcap (leftN rs rs.length) xl wx (own_nrow hox) (HXR.out.below hbx2) (by have := leftN_len rs rs.length; omega) (by have := HXL.out; omega) HLW.out.1
        rw [decide_eq_true hall] at AC
        have HAC := hide AC
        have HOX := hide hox
        have HBX2 := hide hbx2
        have HPX := hide hpx
        have HTL := hide htl
        have HLT := hide hlt
        have hrI : (0 : Int) < (rs.length : Int) := by omega
        have y2 : wx.cell? ⟨wr.heap.size, 2, none⟩ = some (.slice xA xl.length xcap) := BXx.out.cell 2
        clear htk hall hpx hbx hkx hox hbx2 hnn htl hlt MC0 AC hrp HSb BX y0 y1
        go_wp2_with fail
        refine HMC0.out.mono ?_
        rintro e w' ⟨rfl, rfl⟩
        go_wp2_with fail
        refine HAC.out.mono ?_
        rintro e wy ⟨rfl, hby⟩
        have BXy := hide (BXx.out.below hby BXx.out.lt)
        have y2 : wy.cell? ⟨wr.heap.size, 2, none⟩ = some (.slice xA xl.length xcap) := BXy.out.cell 2
        have HOY := hide (own_belowR HOX.out hby)
        have HBY := hide (HBX2.out.trans (hby.mono HBX2.out.size))
        have HPY := hide (HPX.out.below hby)
        have WC := hide (without_c AL xA c xcap (leftN rs rs.length) xl wy (own_nrow HOY.out) (HXR.out.below HBY.out) (by have := leftN_len rs rs.length; omega) (by have := HXL.out; omega))
        clear hby HMC0 HAC HOX HBX2 HPX BXx
        go_wp2_with fail
        refine WC.out.mono ?_
        rintro e wx2 ⟨A3, c3', rfl, ho3, hb3⟩
        have HLL : Hid ((withoutL (leftN rs rs.length) xl).length = (leftN (takR rs (xl.map Int.toNat)) (takR rs (xl.map Int.toNat)).length).length) := hide (by rw [HTL.out, HLT.out])
        have HS9 : Hid (St W wx2 T (takR rs (xl.map Int.toNat)) A3 c3') := hide ⟨HPY.out.below hb3, hTw, by rw [HTL.out, HLT.out]; exact own_more ho3 HBY.out.size, HBY.out.trans (hb3.mono HBY.out.size), takR_done _ rs HDN.out, by rw [HTL.out]; exact hl256⟩
        have BX9 := hide (BXy.out.below hb3 BXy.out.lt)
        have hM : Hid ((((takR rs (xl.map Int.toNat)).length : Nat) : Int) = (rs.length : Int)) := hide (by rw [HTL.out])
        rw [HLL.out]
        obtain ⟨wx, hwx⟩ : ∃ z, wx2 = z := ⟨_, rfl⟩
        rw [hwx] at HS9 BX9 ⊢
        clear hwx ho3 hb3 HPY HBY HOY WC BXy y2 HLL HTL HLT
        generalize takR rs (xl.map Int.toNat) = rq at *
        have LF := hide (Left_c T W.heap.size rq wx HS9.out.1)
        go_wp2_with fail
        refine LF.out.mono ?_
        rintro e wl ⟨A9, c9, rfl, ho9, hb9⟩
        have HSl := hide (HS9.out.below hb9)
        have BXl := hide (BX9.out.below hb9 BX9.out.lt)
        have hlb := Nat.le_trans (leftN_len rq (rq).length) HS9.out.2.2.2.2.2
        have IC := hide (Grp.Ints_b A9 A3 c9 c3' (leftN rq (rq).length) (leftN rq (rq).length) wl (own_nrow ho9) (own_nrow HSl.out.2.2.1) (by omega) (by omega))
        rw [decide_eq_true rfl] at IC
        have hLq := hide hlb
        clear ho9 hb9 LF HS9 BX9 hlb
        go_wp2_with fail
        refine IC.out.mono ?_
        rintro e wi ⟨rfl, hbi⟩
        have HSi := hide (HSl.out.below hbi)
        have BXi := hide (BXl.out.below hbi BXl.out.lt)
        have MC := Many_c T W.heap.size rq wi HSi.out.1
        rw [hM.out] at MC
        have HMC := hide MC
        have y2 : wi.cell? ⟨wr.heap.size, 2, none⟩ = some (.slice xA xl.length xcap) := BXi.out.cell 2
        have FC := hide (first_c xA xcap xl wi (HXR.out.below HSi.out.2.2.2.1))
        have mm1 : ((rs.length : Int) == (rs.length : Int)) = true := by simp
        have mm2 : ((rs.length : Int) != (rs.length : Int)) = false := by simp
        clear hbi IC HSl BXl MC
        go_wp2_with fail
        refine HMC.out.mono ?_
        rintro e w' ⟨rfl, rfl⟩
        go_wp2_with fail
        refine FC.out.mono ?_
        rintro e w' ⟨rfl, rfl⟩
        generalize firstN xl = k
        have hba := (Below.refl wi.heap.size wi).alloc (Nat.le_refl _) (.cells #[.int .i64 k] 3)
        have kba := Blk.new wi 3 #[.int .i64 k]
        have HSa := hide (HSi.out.below hba)
        have MY1 := May_c T W.heap.size rq (some ⟨wi.heap.size, 0, none⟩) 1 [k] (wi.alloc (.cells #[.int .i64 k] 3)) HSa.out.1 (blk_nrow kba) (by simp) (by simp)
        rw [mayE_one] at MY1
        have HC := has_c A3 c3' (leftN rq (rq).length) k (wi.alloc (.cells #[.int .i64 k] 3)) (own_nrow HSa.out.2.2.1) (by have := hLq.out; omega)
        obtain ⟨wj, hwj⟩ : ∃ z, wi.alloc (.cells #[.int .i64 k] 3) = z := ⟨_, rfl⟩
        rw [hwj] at HSa MY1 HC
        have hbb := (Below.refl wj.heap.size wj).alloc (Nat.le_refl _) (.cells #[.int .i64 k, .int .i64 k] 3)
        have kbb := Blk.new wj 3 #[.int .i64 k, .int .i64 k]
        have HSz := hide (HSa.out.below hbb)
        have MY2 := May_c T W.heap.size rq (some ⟨wj.heap.size, 0, none⟩) 2 [k, k] (wj.alloc (.cells #[.int .i64 k, .int .i64 k] 3)) HSz.out.1 (blk_nrow kbb) (by simp) (by simp)
        rw [mayE_two] at MY2
        have HM2 := hide MY2
        clear hba kba hbb kbb MY2 y2 FC HMC BXi
        by_cases hin : k ∈ leftN rq (rq).length
        · rw [if_pos hin] at MY1
          rw [decide_eq_true hin] at HC
          have HM1 := hide MY1
          have HCC := hide HC
          clear MY1 HC hin
          go_wp2_with fail
          refine HM1.out.mono ?_
          rintro e w' ⟨rfl, rfl⟩
          go_wp2_with fail
          refine HCC.out.mono ?_
          rintro e w' ⟨rfl, rfl⟩
          go_wp2_with fail
          refine HM2.out.mono ?_
          rintro e w' ⟨rfl, rfl⟩
          go_wp2_with fail
          go_roundw
          case rel => exact ⟨i + 1, by omega, by go_num, rq, A3, c3', rfl, by rw [hM.out], HSz⟩
          case measure => simp [RowKit.intOf] <;> omega
        · rw [if_neg hin] at MY1
          rw [decide_eq_false hin] at HC
          have HM1 := hide MY1
          have HCC := hide HC
          clear MY1 HC hin
          go_wp2_with fail
          refine HM1.out.mono ?_
          rintro e w' ⟨rfl, rfl⟩
          go_wp2_with fail
          refine HCC.out.mono ?_
          rintro e w' ⟨rfl, rfl⟩
          go_wp2_with fail
          refine HM2.out.mono ?_
          rintro e w' ⟨rfl, rfl⟩
          go_wp2_with fail
          go_roundw
          case rel => exact ⟨i + 1, by omega, by go_num, rq, A3, c3', rfl, by rw [hM.out], HSz⟩
          case measure => simp [RowKit.intOf] <;> omega
      · have hall : ¬ allT (leftN rs rs.length) xl := fun h => hn2 ((take_all rs xl HDN.out).2 h)
        have HSx := hide (HSb.out.below hbx)
        have BXx := hide (BX.out.below hbx BX.out.lt)
        have HMC0 := hide (Many_c T W.heap.size rs wx HSx.out.1)
        have AC := all_c AL xA c xcap (leftN rs rs.length) xl wx (own_nrow HSx.out.2.2.1) (HXR.out.below HSx.out.2.2.2.1) (by have := leftN_len rs rs.length; omega) (by have := HXL.out; omega) HLW.out.1
        rw [decide_eq_false hall] at AC
        have HAC := hide AC
        have y2 : wx.cell? ⟨wr.heap.size, 2, none⟩ = some (.slice xA xl.length xcap) := BXx.out.cell 2
        clear hall hn2 hbx AC HSb BX y0 y1
        by_cases hrp : 0 < rs.length
        · have hrI : (0 : Int) < (rs.length : Int) := by omega
          go_wp2_with fail
          refine HMC0.out.mono ?_
          rintro e w' ⟨rfl, rfl⟩
          go_wp2_with fail
          refine HAC.out.mono ?_
          rintro e wy ⟨rfl, hby⟩
          have HS9 := hide (HSx.out.below hby)
          have BX9 := hide (BXx.out.below hby BXx.out.lt)
          obtain ⟨wx, hwx⟩ : ∃ z, wy = z := ⟨_, rfl⟩
          rw [hwx] at HS9 BX9 ⊢
          clear hwx hby HSx BXx HMC0 HAC y2
          have LF := hide (Left_c T W.heap.size rs wx HS9.out.1)
          go_wp2_with fail
          refine LF.out.mono ?_
          rintro e wl ⟨A9, c9, rfl, ho9, hb9⟩
          have HSl := hide (HS9.out.below hb9)
          have BXl := hide (BX9.out.below hb9 BX9.out.lt)
          have hlb := Nat.le_trans (leftN_len rs (rs).length) HS9.out.2.2.2.2.2
          have IC := hide (Grp.Ints_b A9 AL c9 c (leftN rs (rs).length) (leftN rs (rs).length) wl (own_nrow ho9) (own_nrow HSl.out.2.2.1) (by omega) (by omega))
          rw [decide_eq_true rfl] at IC
          have hLq := hide hlb
          clear ho9 hb9 LF HS9 BX9 hlb
          go_wp2_with fail
          refine IC.out.mono ?_
          rintro e wi ⟨rfl, hbi⟩
          have HSi := hide (HSl.out.below hbi)
          have BXi := hide (BXl.out.below hbi BXl.out.lt)
          have MC := Many_c T W.heap.size rs wi HSi.out.1
          have HMC := hide MC
          have y2 : wi.cell? ⟨wr.heap.size, 2, none⟩ = some (.slice xA xl.length xcap) := BXi.out.cell 2
          have FC := hide (first_c xA xcap xl wi (HXR.out.below HSi.out.2.2.2.1))
          have mm1 : ((rs.length : Int) == (rs.length : Int)) = true := by simp
          have mm2 : ((rs.length : Int) != (rs.length : Int)) = false := by simp
          clear hbi IC HSl BXl MC
          go_wp2_with fail
          refine HMC.out.mono ?_
          rintro e w' ⟨rfl, rfl⟩
          go_wp2_with fail
          refine FC.out.mono ?_
          rintro e w' ⟨rfl, rfl⟩
          generalize firstN xl = k
          have hba := (Below.refl wi.heap.size wi).alloc (Nat.le_refl _) (.cells #[.int .i64 k] 3)
          have kba := Blk.new wi 3 #[.int .i64 k]
          have HSa := hide (HSi.out.below hba)
          have MY1 := May_c T W.heap.size rs (some ⟨wi.heap.size, 0, none⟩) 1 [k] (wi.alloc (.cells #[.int .i64 k] 3)) HSa.out.1 (blk_nrow kba) (by simp) (by simp)
          rw [mayE_one] at MY1
          have HC := has_c AL c (leftN rs (rs).length) k (wi.alloc (.cells #[.int .i64 k] 3)) (own_nrow HSa.out.2.2.1) (by have := hLq.out; omega)
          obtain ⟨wj, hwj⟩ : ∃ z, wi.alloc (.cells #[.int .i64 k] 3) = z := ⟨_, rfl⟩
          rw [hwj] at HSa MY1 HC
          have hbb := (Below.refl wj.heap.size wj).alloc (Nat.le_refl _) (.cells #[.int .i64 k, .int .i64 k] 3)
          have kbb := Blk.new wj 3 #[.int .i64 k, .int .i64 k]
          have HSz := hide (HSa.out.below hbb)
          have MY2 := May_c T W.heap.size rs (some ⟨wj.heap.size, 0, none⟩) 2 [k, k] (wj.alloc (.cells #[.int .i64 k, .int .i64 k] 3)) HSz.out.1 (blk_nrow kbb) (by simp) (by simp)
          rw [mayE_two] at MY2
          have HM2 := hide MY2
          clear hba kba hbb kbb MY2 y2 FC HMC BXi
          by_cases hin : k ∈ leftN rs (rs).length
          · rw [if_pos hin] at MY1
            rw [decide_eq_true hin] at HC
            have HM1 := hide MY1
            have HCC := hide HC
            clear MY1 HC hin
            go_wp2_with fail
            refine HM1.out.mono ?_
            rintro e w' ⟨rfl, rfl⟩
            go_wp2_with fail
            refine HCC.out.mono ?_
            rintro e w' ⟨rfl, rfl⟩
            go_wp2_with fail
            refine HM2.out.mono ?_
            rintro e w' ⟨rfl, rfl⟩
            go_wp2_with fail
            go_roundw
            case rel => exact ⟨i + 1, by omega, by go_num, rs, AL, c, rfl, rfl, HSz⟩
            case measure => simp [RowKit.intOf] <;> omega
          · rw [if_neg hin] at MY1
            rw [decide_eq_false hin] at HC
            have HM1 := hide MY1
            have HCC := hide HC
            clear MY1 HC hin
            go_wp2_with fail
            refine HM1.out.mono ?_
            rintro e w' ⟨rfl, rfl⟩
            go_wp2_with fail
            refine HCC.out.mono ?_
            rintro e w' ⟨rfl, rfl⟩
            go_wp2_with fail
            refine HM2.out.mono ?_
            rintro e w' ⟨rfl, rfl⟩
            go_wp2_with fail
            go_roundw
            case rel => exact ⟨i + 1, by omega, by go_num, rs, AL, c, rfl, rfl, HSz⟩
            case measure => simp [RowKit.intOf] <;> omega
        · have hrI : ¬ (0 : Int) < (rs.length : Int) := by omega
          have HS9 := HSx
          have BX9 := BXx
          go_wp2_with fail
          refine HMC0.out.mono ?_
          rintro e w' ⟨rfl, rfl⟩
          clear HSx BXx HMC0 HAC y2
          have LF := hide (Left_c T W.heap.size rs wx HS9.out.1)
          go_wp2_with fail
          refine LF.out.mono ?_
          rintro e wl ⟨A9, c9, rfl, ho9, hb9⟩
          have HSl := hide (HS9.out.below hb9)
          have BXl := hide (BX9.out.below hb9 BX9.out.lt)
          have hlb := Nat.le_trans (leftN_len rs (rs).length) HS9.out.2.2.2.2.2
          have IC := hide (Grp.Ints_b A9 AL c9 c (leftN rs (rs).length) (leftN rs (rs).length) wl (own_nrow ho9) (own_nrow HSl.out.2.2.1) (by omega) (by omega))
          rw [decide_eq_true rfl] at IC
          have hLq := hide hlb
          clear ho9 hb9 LF HS9 BX9 hlb
          go_wp2_with fail
          refine IC.out.mono ?_
          rintro e wi ⟨rfl, hbi⟩
          have HSi := hide (HSl.out.below hbi)
          have BXi := hide (BXl.out.below hbi BXl.out.lt)
          have MC := Many_c T W.heap.size rs wi HSi.out.1
          have HMC := hide MC
          have y2 : wi.cell? ⟨wr.heap.size, 2, none⟩ = some (.slice xA xl.length xcap) := BXi.out.cell 2
          have FC := hide (first_c xA xcap xl wi (HXR.out.below HSi.out.2.2.2.1))
          have mm1 : ((rs.length : Int) == (rs.length : Int)) = true := by simp
          have mm2 : ((rs.length : Int) != (rs.length : Int)) = false := by simp
          clear hbi IC HSl BXl MC
          go_wp2_with fail
          refine HMC.out.mono ?_
          rintro e w' ⟨rfl, rfl⟩
          go_wp2_with fail
          refine FC.out.mono ?_
          rintro e w' ⟨rfl, rfl⟩
          generalize firstN xl = k
          have hba := (Below.refl wi.heap.size wi).alloc (Nat.le_refl _) (.cells #[.int .i64 k] 3)
          have kba := Blk.new wi 3 #[.int .i64 k]
          have HSa := hide (HSi.out.below hba)
          have MY1 := May_c T W.heap.size rs (some ⟨wi.heap.size, 0, none⟩) 1 [k] (wi.alloc (.cells #[.int .i64 k] 3)) HSa.out.1 (blk_nrow kba) (by simp) (by simp)
          rw [mayE_one] at MY1
          have HC := has_c AL c (leftN rs (rs).length) k (wi.alloc (.cells #[.int .i64 k] 3)) (own_nrow HSa.out.2.2.1) (by have := hLq.out; omega)
          obtain ⟨wj, hwj⟩ : ∃ z, wi.alloc (.cells #[.int .i64 k] 3) = z := ⟨_, rfl⟩
          rw [hwj] at HSa MY1 HC
          have hbb := (Below.refl wj.heap.size wj).alloc (Nat.le_refl _) (.cells #[.int .i64 k, .int .i64 k] 3)
          have kbb := Blk.new wj 3 #[.int .i64 k, .int .i64 k]
          have HSz := hide (HSa.out.below hbb)
          have MY2 := May_c T W.heap.size rs (some ⟨wj.heap.size, 0, none⟩) 2 [k, k] (wj.alloc (.cells #[.int .i64 k, .int .i64 k] 3)) HSz.out.1 (blk_nrow kbb) (by simp) (by simp)
          rw [mayE_two] at MY2
          have HM2 := hide MY2
          clear hba kba hbb kbb MY2 y2 FC HMC BXi
          by_cases hin : k ∈ leftN rs (rs).length
          · rw [if_pos hin] at MY1
            rw [decide_eq_true hin] at HC
            have HM1 := hide MY1
            have HCC := hide HC
            clear MY1 HC hin
            go_wp2_with fail
            refine HM1.out.mono ?_
            rintro e w' ⟨rfl, rfl⟩
            go_wp2_with fail
            refine HCC.out.mono ?_
            rintro e w' ⟨rfl, rfl⟩
            go_wp2_with fail
            refine HM2.out.mono ?_
            rintro e w' ⟨rfl, rfl⟩
            go_wp2_with fail
            go_roundw
            case rel => exact ⟨i + 1, by omega, by go_num, rs, AL, c, rfl, rfl, HSz⟩
            case measure => simp [RowKit.intOf] <;> omega
          · rw [if_neg hin] at MY1
            rw [decide_eq_false hin] at HC
            have HM1 := hide MY1
            have HCC := hide HC
            clear MY1 HC hin
            go_wp2_with fail
            refine HM1.out.mono ?_
            rintro e w' ⟨rfl, rfl⟩
            go_wp2_with fail
            refine HCC.out.mono ?_
            rintro e w' ⟨rfl, rfl⟩
            go_wp2_with fail
            refine HM2.out.mono ?_
            rintro e w' ⟨rfl, rfl⟩
            go_wp2_with fail
            go_roundw
            case rel => exact ⟨i + 1, by omega, by go_num, rs, AL, c, rfl, rfl, HSz⟩
            case measure => simp [RowKit.intOf] <;> omega
end Go.Proofs.Ytiggmieoldjhnaa.RequestLeftW
