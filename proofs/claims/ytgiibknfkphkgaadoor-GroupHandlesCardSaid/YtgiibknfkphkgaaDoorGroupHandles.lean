/- The walk of the statement GroupHandles: of any group, any acts; without conditions. -/
import Derived.Test.YtgiibknfkphkgaaDoorRows
import Derived.Test.YtgiibknfkphkgaaDoorSpM
import Derived.Test.YtgiibknfkphkgaaDoorSpO
import Derived.Test.YtgiibknfkphkgaaDoorHanT
import Derived.Test.YtgiibknfkphkgaaDoorRelS
import Derived.Test.YtgiibknfkphkgaaDoorQuietBelow
import Derived.Lib.AppendZeros
import Derived.LoopN
namespace Go.Proofs.YtgiibknfkphkgaaDoor.GroupHandlesW
open Go Go.Joins Go.ChangeShapes Go.WideShapes Go.RowKit Go.Deep Go.Proofs.YtgiibknfkphkgaaDoor Go.Proofs.YtgiibknfkphkgaaDoor.Grp
open Go.Proofs.YtgiibknfkphkgaaDoor.Sp (awake_c blk_nrow)
set_option linter.unusedVariables false
set_option linter.unusedSimpArgs false
theorem rem_in (a : Int) (n : Nat) (h1 : 1 ≤ n) (h2 : n ≤ 120) : ∃ p : Nat, p < n ∧ wrap64 ((IntKind.u64.wrap a).tmod n) = (p : Int) := by
  rw [IntKind.wrap_u64]
  generalize hx : a % 18446744073709551616 = x
  have hx0 : 0 ≤ x := by omega
  rw [Int.tmod_eq_emod_of_nonneg hx0]
  have h3 := Int.emod_nonneg x (show (n : Int) ≠ 0 by omega)
  have h4 := Int.emod_lt_of_pos x (show (0 : Int) < n by omega)
  obtain ⟨p, hp⟩ := Int.eq_ofNat_of_zero_le h3
  refine ⟨p, by omega, ?_⟩
  rw [hp]
  unfold wrap64; omega
theorem rem2 {k : Int} (h0 : 0 ≤ k) : Int.tmod k 2 = 0 ∨ Int.tmod k 2 = 1 := by
  rw [Int.tmod_eq_emod_of_nonneg h0]
  omega
theorem add_two {ss : List S3} {key : ByteArray} {l : List Int} (h : mayL l ∧ ss.length < 32) : addN ss l = ss.length ∧ addF ss l = 0 ∧ addS ss key l = ss ++ [(key, l, false)] := by
  unfold addN addF addS
  rw [if_pos h, if_pos h.1, if_pos h.2, if_pos h]
  exact ⟨rfl, rfl, rfl⟩
theorem add_not {ss : List S3} {key : ByteArray} {l : List Int} (h : ¬ (mayL l ∧ ss.length < 32)) : addN ss l = 0 ∧ (addF ss l = if mayL l then 4 else 2) ∧ addS ss key l = ss := by
  unfold addN addF addS
  rw [if_neg h, if_neg h]
  refine ⟨rfl, ?_, rfl⟩
  by_cases hm : mayL l
  · rw [if_pos hm, if_pos hm, if_neg (fun h2 => h ⟨hm, h2⟩)]
  · rw [if_neg hm, if_neg hm]
set_option maxRecDepth 100000 in
set_option maxHeartbeats 16000000 in
theorem walk {H : Type} {enc : TypeId × Value → H} {base : Nat} (W : World) (hP : Pow W) (v0 : Value) (d0 : DataW H) (p0 : List MemPlace) (o0 : Value.okWide Tryd.prog W .any base 24 v0) (r0 : DataW.Trod enc Tryd.prog W 0 (fun _ => true) true 24 v0 d0 p0) (v1 : Value) (d1 : DataW H) (p1 : List MemPlace) (o1 : Value.okWide Tryd.prog W .any base 49 v1) (r1 : DataW.Trod enc Tryd.prog W 0 (fun _ => true) true 49 v1 d1 p1) :
    Calls Tryd.prog 8 #[v0, v1] W fun e w' => e = .returned (.bool true) ∧ Below W.heap.size W w' := by
  obtain ⟨key, A, l, cap, rfl, hr⟩ := group_of o0 r0 (fun _ => rfl)
  obtain ⟨L, n, lc, F, rfl, hn, hF⟩ := acts_of o1 r1 (fun _ => rfl)
  clear o0 r0 o1 r1 hn
  have hb1 := (Below.refl W.heap.size W).alloc (Nat.le_refl _) (.cells #[.string key, .slice A l.length cap] 24)
  have b1 := Blk.new W 24 #[.string key, .slice A l.length cap]
  obtain ⟨W1, hW1⟩ : ∃ W1, W.alloc (.cells #[.string key, .slice A l.length cap] 24) = W1 := ⟨_, rfl⟩
  rw [hW1] at hb1 b1
  have AW := hide (awake_c W1 (hP.below hb1 (Nat.le_refl _)))
  have HN := hide (hr.below hb1)
  have HF := hide (hF.below hb1)
  have HB1 := hide hb1
  have B1 := hide b1
  clear hb1 b1 hr hP hF
  go_enter Tryd.func8, Tryd.ntmps8
  go_wp2_with fail
  refine AW.out.mono ?_
  rintro e w2 ⟨rfl, hb2⟩
  have HB2 := hide hb2
  have b2 := B1.out.below hb2 B1.out.lt
  have q0 : w2.cell? ⟨W.heap.size, 0, none⟩ = some (.string key) := b2.cell 0
  have q1 : w2.cell? ⟨W.heap.size, 1, none⟩ = some (.slice A l.length cap) := b2.cell 1
  have GR := hide (Great_a key A l.length cap w2)
  clear hb2 b2 AW
  go_wp2_with fail
  refine GR.out.mono ?_
  rintro e w3 ⟨rfl, hb3⟩
  have HB3 := hide (HB2.out.trans (hb3.mono HB2.out.size))
  have b3 := B1.out.below HB3.out B1.out.lt
  have x0 : w3.cell? ⟨W.heap.size, 0, none⟩ = some (.string key) := b3.cell 0
  have x1 : w3.cell? ⟨W.heap.size, 1, none⟩ = some (.slice A l.length cap) := b3.cell 1
  clear hb3 b3 q0 q1 GR
  cases hg : gt key l.length with
  | true =>
    clear hg
    go_wp2_with fail
    go_ret
    exact ⟨rfl, HB1.out.trans (HB3.out.mono HB1.out.size)⟩
  | false =>
  have hrl : l.length ≤ 80 := by
    unfold gt at hg
    simp at hg
    omega
  have HRL := hide hrl
  clear hg hrl
  by_cases hn100 : 100 < n
  · have nI : (100 : Int) < (n : Int) := by omega
    clear hn100
    go_wp2_with fail
    go_ret
    exact ⟨rfl, HB1.out.trans (HB3.out.mono HB1.out.size)⟩
  have nI : ¬ (100 : Int) < (n : Int) := by omega
  have MC := hide (May_a key A cap l w3 (HN.out.below HB3.out) (by have := HRL.out; omega))
  have hnn : n ≤ 100 := by omega
  clear hn100
  go_wp2_with fail
  clear nI
  refine MC.out.mono ?_
  rintro e w5 ⟨rfl, hb5⟩
  have HB5 := hide (HB3.out.trans (hb5.mono HB3.out.size))
  have b5 := B1.out.below HB5.out B1.out.lt
  have q0 : w5.cell? ⟨W.heap.size, 0, none⟩ = some (.string key) := b5.cell 0
  have q1 : w5.cell? ⟨W.heap.size, 1, none⟩ = some (.slice A l.length cap) := b5.cell 1
  clear hb5 b5 x0 x1 MC
  by_cases hmay : mayL l
  rotate_left
  · rw [decide_eq_false hmay]
    clear hmay
    go_wp2_with fail
    go_ret
    exact ⟨rfl, HB1.out.trans (HB5.out.mono HB1.out.size)⟩
  rw [decide_eq_true hmay]
  have NC := hide (New_a key A cap l w5 (HN.out.below HB5.out) (by have := HRL.out; omega))
  have HMX := hide hmay
  have B5 := hide (B1.out.below HB5.out B1.out.lt)
  have HF5 := hide (HF.out.below HB5.out)
  have HN5 := hide (HN.out.below HB5.out)
  clear hmay
  go_wp2_with fail
  refine NC.out.mono ?_
  rintro e w6 ⟨he6, hb6⟩
  rw [if_pos HMX.out] at he6
  obtain ⟨T, A', rfl, hT, hTA⟩ := he6
  have PA6 : PA w6 T w5.heap.size [(key, l, false)] := ⟨hT, _, hTA, rfl⟩
  have b6 := B5.out.below hb6 B5.out.lt
  have x0 : w6.cell? ⟨W.heap.size, 0, none⟩ = some (.string key) := b6.cell 0
  have x1 : w6.cell? ⟨W.heap.size, 1, none⟩ = some (.slice A l.length cap) := b6.cell 1
  -- what is kept beside the table
  have hbg := (Below.refl w6.heap.size w6).alloc (Nat.le_refl _) (.cells #[.string key, .slice A l.length cap] 24)
  have og := Blk.new w6 24 #[.string key, .slice A l.length cap]
  obtain ⟨w7, hw7⟩ : ∃ x, w6.alloc (.cells #[.string key, .slice A l.length cap] 24) = x := ⟨_, rfl⟩
  rw [hw7] at hbg og
  have hbo := (Below.refl w7.heap.size w7).alloc (Nat.le_refl _) (.cells #[.bool false] 4)
  have oo := Blk.new w7 4 #[.bool false]
  obtain ⟨w8, hw8⟩ : ∃ x, w7.alloc (.cells #[.bool false] 4) = x := ⟨_, rfl⟩
  rw [hw8] at hbo oo
  have hb68 := hbg.trans (hbo.mono hbg.size)
  have HH8 : Hid (HSt w8 T w5.heap.size (some ⟨w6.heap.size, 0, none⟩) (some ⟨w7.heap.size, 0, none⟩) 1 1 [⟨key, A, cap, l, false⟩]) := hide ⟨PA6.below hb68, ⟨rfl, .inr ⟨w6.heap.size, 1, _, rfl, hb6.size, og.below hbo og.lt, Nat.le_refl _, by unfold maxLen; omega, rfl, rfl⟩⟩, ⟨rfl, .inr ⟨w7.heap.size, 1, _, rfl, Nat.le_trans hb6.size hbg.size, oo, Nat.le_refl _, by unfold maxLen; omega, rfl, rfl⟩⟩⟩
  have HB8 := hide (hb6.trans (hb68.mono hb6.size))
  have HRD8 : Hid (∀ h ∈ [(⟨key, A, cap, l, false⟩ : He)], NRow w5 h.A h.l ∧ h.l.length ≤ 100) := hide (fun h hm => by
    rw [List.mem_singleton.1 hm]
    exact ⟨HN5.out, by have := HRL.out; show l.length ≤ 100; omega⟩)
  clear hT hTA PA6 b6 hbg og hbo oo hb68 hb6 q0 q1 NC
  go_wp2_with fail
  clear x0 x1
  go_loopw [7, 8, 9] (fun vg vo vi wr => ∃ (i : Nat) (hs : List He) (O1 O2 : Option Addr) (oc1 oc2 : Nat), i ≤ n ∧ vi = .int .i64 i ∧ vg = .slice O1 hs.length oc1 ∧ vo = .slice O2 hs.length oc2 ∧ Hid (∀ h ∈ hs, NRow w5 h.A h.l ∧ h.l.length ≤ 100) ∧ Hid (HSt wr T w5.heap.size O1 O2 oc1 oc2 hs) ∧ Hid (Below w5.heap.size w5 wr)) (fun _ _ vi _ => n - (RowKit.intOf vi).toNat)
  case atStart => exact ⟨0, [⟨key, A, cap, l, false⟩], _, _, 1, 1, Nat.zero_le _, rfl, rfl, rfl, HRD8, HH8, HB8⟩
  case round =>
    clear HH8 HB8 HRD8
    obtain ⟨i, hs, O1, O2, oc1, oc2, hi, rfl, rfl, rfl, HRD, HH, HB⟩ := hrel
    rename World => wr
    by_cases hlt : i < n
    rotate_left
    · have hltI : ¬ (i : Int) < (n : Int) := by omega
      go_wp2_with fail
      go_ret
      exact ⟨rfl, HB1.out.trans ((HB5.out.trans (HB.out.mono HB5.out.size)).mono HB1.out.size)⟩
    have hltI : (i : Int) < (n : Int) := by omega
    obtain ⟨a, rfl, c0, c1, c2, c3, hxr, k0, k1, halt⟩ := HF5.out i hlt
    have c0 := (HB.out.cell halt).trans c0
    have c1 := (HB.out.cell (p := ⟨_, _, none⟩) halt).trans c1
    have c2 := (HB.out.cell (p := ⟨_, _, none⟩) halt).trans c2
    have c3 := (HB.out.cell (p := ⟨_, _, none⟩) halt).trans c3
    generalize F i = x at *
    obtain ⟨kind, h, xkey, xA, xcap, xl⟩ := x
    simp only at c0 c1 c2 c3 hxr k0 k1
    have HXR : Hid (NRow w5 xA xl) := hide hxr
    obtain ⟨hbk, hbx⟩ := box4 wr 55 (.int .u8 0) (.int .i64 0) (.string ⟨#[]⟩) (.slice none 0 0) (.int .u8 kind) (.int .i64 h) (.string xkey) (.slice xA xl.length xcap)
    have bz := Blk.new wr 55 #[.int .u8 0, .int .i64 0, .string ⟨#[]⟩, .slice none 0 0]
    obtain ⟨wa, hwa⟩ : ∃ x, wr.alloc (.cells #[.int .u8 0, .int .i64 0, .string ⟨#[]⟩, .slice none 0 0] 55) = x := ⟨_, rfl⟩
    rw [hwa] at hbk hbx bz
    have z0 : wa.cell? ⟨wr.heap.size, 0, none⟩ = some (.int .u8 0) := bz.cell 0
    have z1 : wa.cell? ⟨wr.heap.size, 1, none⟩ = some (.int .i64 0) := bz.cell 1
    have z2 : wa.cell? ⟨wr.heap.size, 2, none⟩ = some (.string ⟨#[]⟩) := bz.cell 2
    have z3 : wa.cell? ⟨wr.heap.size, 3, none⟩ = some (.slice none 0 0) := bz.cell 3
    have f0 := bz.frozen 0
    have f1 := bz.frozen 1
    have f2 := bz.frozen 2
    have f3 := bz.frozen 3
    obtain ⟨wb, hwb⟩ : ∃ x, (((wa.setCell ⟨wr.heap.size, 0, none⟩ (.int .u8 kind)).setCell ⟨wr.heap.size, 1, none⟩ (.int .i64 h)).setCell ⟨wr.heap.size, 2, none⟩ (.string xkey)).setCell ⟨wr.heap.size, 3, none⟩ (.slice xA xl.length xcap) = x := ⟨_, rfl⟩
    rw [hwb] at hbk hbx
    have y2 : wb.cell? ⟨wr.heap.size, 2, none⟩ = some (.string xkey) := hbk.cell 2
    have y3 : wb.cell? ⟨wr.heap.size, 3, none⟩ = some (.slice xA xl.length xcap) := hbk.cell 3
    have BXb := hide hbk
    have HHb := hide (HH.out.below hbx)
    have HBb := hide (HB.out.trans (hbx.mono HB.out.size))
    have GX := hide (Great_a xkey xA xl.length xcap wb)
    clear hbk hbx bz hxr halt HH HB
    go_wp2_with fail
    refine GX.out.mono ?_
    rintro e wg ⟨rfl, hbg⟩
    have BXg := hide (BXb.out.below hbg BXb.out.lt)
    have HHg := hide (HHb.out.below hbg)
    have HBg := hide (HBb.out.trans (hbg.mono HBb.out.size))
    clear hbg y2 y3 z0 z1 z2 z3 f0 f1 f2 f3 c0 c1 c2 c3 BXb HHb HBb GX hwa hwb
    cases hg : gt xkey xl.length with
    | true =>
      clear hg
      go_wp2_with fail
      go_ret
      exact ⟨rfl, HB1.out.trans ((HB5.out.trans (HBg.out.mono HB5.out.size)).mono HB1.out.size)⟩
    | false =>
    have hxl : xl.length ≤ 80 := by
      unfold gt at hg
      simp at hg
      omega
    have HXL := hide hxl
    have y0 : wg.cell? ⟨wr.heap.size, 0, none⟩ = some (.int .u8 kind) := BXg.out.cell 0
    have y1 : wg.cell? ⟨wr.heap.size, 1, none⟩ = some (.int .i64 h) := BXg.out.cell 1
    have y2 : wg.cell? ⟨wr.heap.size, 2, none⟩ = some (.string xkey) := BXg.out.cell 2
    have y3 : wg.cell? ⟨wr.heap.size, 3, none⟩ = some (.slice xA xl.length xcap) := BXg.out.cell 3
    have hl32g := HHg.out.lens
    clear hg hxl
    rcases rem2 k0 with hm | hm
    · -- a group is added, or not
      have AD := hide (AddA T w5.heap.size (hs.map sk) xkey xA xcap xl wg HHg.out.tab (fun w' hb => HXR.out.below (HBg.out.trans hb)) (by have := HXL.out; omega))
      go_wp2_with fail
      clear y0 y1 y2 y3 hm
      refine AD.out.mono ?_
      rintro e wi ⟨rfl, hpi, hbi, hki, _⟩
      have BXi := hide (KeepsBut.blk hki BXg.out (by decide))
      have HGi := hide (KeepsBut.own hki HHg.out.gro (by decide))
      have HOi := hide (KeepsBut.own hki HHg.out.gon (by decide))
      have HBi := hide (HBg.out.trans hbi)
      have y2 : wi.cell? ⟨wr.heap.size, 2, none⟩ = some (.string xkey) := BXi.out.cell 2
      have y3 : wi.cell? ⟨wr.heap.size, 3, none⟩ = some (.slice xA xl.length xcap) := BXi.out.cell 3
      have MX := hide (May_a xkey xA xcap xl wi (HXR.out.below HBi.out) (by have := HXL.out; omega))
      by_cases hadd : mayL xl ∧ (hs.map sk).length < 32
      · obtain ⟨e1, e2, e3⟩ := add_two (key := xkey) hadd
        rw [e3] at hpi
        rw [e1, e2, List.length_map]
        rw [decide_eq_true hadd.1] at MX
        have hlt32 : hs.length < 32 := by have := hadd.2; rwa [List.length_map] at this
        have hltn : (hs.length : Int) < 32 := by omega
        have HPi := hide hpi
        clear hpi hbi hki hadd e1 e2 e3 AD
        go_wp2_with fail
        refine MX.out.mono ?_
        rintro e wj ⟨rfl, hbj⟩
        have BXj := BXi.out.below hbj BXi.out.lt
        have y2 : wj.cell? ⟨wr.heap.size, 2, none⟩ = some (.string xkey) := BXj.cell 2
        have y3 : wj.cell? ⟨wr.heap.size, 3, none⟩ = some (.slice xA xl.length xcap) := BXj.cell 3
        have hBj := HBi.out.trans (hbj.mono HBi.out.size)
        obtain ⟨A1, c1, wk, hrun1, hown1, hbk1, hk1⟩ := push_group wj w5.heap.size O1 oc1 hs.length hs ⟨xkey, xA, xcap, xl, false⟩ rfl (own_belowR HGi.out hbj) hBj.size (by omega)
        have ho1 := KeepsBut.own hk1 (own_belowR HOi.out hbj) (by decide)
        have hp1 := (HPi.out.below hbj).keep hk1 (by decide) (by decide) (by decide)
        have hBk := hBj.trans hbk1
        obtain ⟨A2, c2, wl, hrun2, hown2, hbk2, hk2⟩ := push_bool wk w5.heap.size O2 oc2 hs.length hs ⟨xkey, xA, xcap, xl, false⟩ rfl ho1 hBk.size (by omega)
        have hp2 := hp1.keep hk2 (by decide) (by decide) (by decide)
        have hg2 := KeepsBut.own hk2 hown1 (by decide)
        have hsl : (hs ++ [(⟨xkey, xA, xcap, xl, false⟩ : He)]).length = hs.length + 1 := by simp
        have HHl : Hid (HSt wl T w5.heap.size A1 A2 c1 c2 (hs ++ [(⟨xkey, xA, xcap, xl, false⟩ : He)])) := hide ⟨by rw [List.map_append]; exact hp2, by rw [hsl]; exact hg2, by rw [hsl]; exact hown2⟩
        have HBl := hide (hBk.trans hbk2)
        have RDl : Hid (∀ h ∈ hs ++ [(⟨xkey, xA, xcap, xl, false⟩ : He)], NRow w5 h.A h.l ∧ h.l.length ≤ 100) := hide (fun h hm => by
          rcases List.mem_append.1 hm with hm | hm
          · exact HRD.out h hm
          · rw [List.mem_singleton.1 hm]
            exact ⟨HXR.out, by have := HXL.out; show xl.length ≤ 100; omega⟩)
        have RUN1 := hide hrun1
        have RUN2 := hide hrun2
        clear hbj BXj hBj hrun1 hrun2 hown1 hown2 hbk1 hbk2 hk1 hk2 ho1 hp1 hp2 hg2 hBk MX BXi HGi HOi HPi HBi
        have hnn2 : ((hs.length : Int) != (hs.length : Int)) = false := by simp
        go_wp2_with (at_builtin; first
          | refine Lib.wpList_append_run _ rfl (.tmp 82) (.tmp 85) _ _ rfl _ _ rfl rfl _ _ RUN1.out ?_
          | refine Lib.wpList_append_run _ rfl (.tmp 87) (.tmp 88) _ _ rfl _ _ rfl rfl _ _ RUN2.out ?_)
        clear RUN1 RUN2 y2 y3 hnn2
        rw [← hsl]
        clear hltn hlt32
        generalize hs ++ [(⟨xkey, xA, xcap, xl, false⟩ : He)] = hs' at *
        clear hsl
        go_loopw [14] (fun vj ws => ∃ (j : Nat), j ≤ hs'.length ∧ vj = .int .i64 j ∧ Hid (HSt ws T w5.heap.size A1 A2 c1 c2 hs') ∧ Hid (Below w5.heap.size w5 ws)) (fun vj _ => hs'.length - (RowKit.intOf vj).toNat)
        case atStart => exact ⟨0, Nat.zero_le _, rfl, HHl, HBl⟩
        case round =>
          clear HHl HBl
          obtain ⟨j, hj, rfl, HHs, HBs⟩ := hrel
          rename World => ws
          have hl32 := HHs.out.lens.2
          by_cases hjl : j < hs'.length
          rotate_left
          · have hjI : ¬ (j : Int) < (hs'.length : Int) := by omega
            go_wp2_with fail
            go_roundw
            case rel => exact ⟨i + 1, hs', A1, A2, c1, c2, by omega, by go_num, rfl, rfl, RDl, HHs, HBs⟩
            case measure => simp [RowKit.intOf] <;> omega
          have hjI : (j : Int) < (hs'.length : Int) := by omega
          have AC := hide (AtA T w5.heap.size (hs'.map sk) (j : Int) ws HHs.out.tab)
          have hrd := RDl.out _ (List.getElem_mem hjl)
          have HRX := hide hrd
          clear hrd
          cases hgj : hs'[j].gone with
          | true =>
            have hask := gone_ask hjl hgj
            rw [hask] at AC
            have HG := hide hgj
            clear hask hgj
            go_wp2_with fail
            refine AC.out.mono ?_
            rintro e wt ⟨A9, c9, rfl, _, hbt⟩
            obtain ⟨hbk, hbx⟩ := box2 wt 24 (.string ⟨#[]⟩) (.slice none 0 0) (.string (atK (hs'.map sk) (j : Int))) (.slice A9 (atL (hs'.map sk) (j : Int)).length c9)
            have bz := Blk.new wt 24 #[.string ⟨#[]⟩, .slice none 0 0]
            obtain ⟨Wa, hWa⟩ : ∃ x, wt.alloc (.cells #[.string ⟨#[]⟩, .slice none 0 0] 24) = x := ⟨_, rfl⟩
            rw [hWa] at hbk hbx bz
            have z0 : Wa.cell? ⟨wt.heap.size, 0, none⟩ = some (.string ⟨#[]⟩) := bz.cell 0
            have z1 : Wa.cell? ⟨wt.heap.size, 1, none⟩ = some (.slice none 0 0) := bz.cell 1
            have f0 := bz.frozen 0
            have f1 := bz.frozen 1
            obtain ⟨wu, hwu⟩ : ∃ x, (Wa.setCell ⟨wt.heap.size, 0, none⟩ (.string (atK (hs'.map sk) (j : Int)))).setCell ⟨wt.heap.size, 1, none⟩ (.slice A9 (atL (hs'.map sk) (j : Int)).length c9) = x := ⟨_, rfl⟩
            rw [hwu] at hbk hbx
            have hbu := hbt.trans (hbx.mono hbt.size)
            have HHu := hide (HHs.out.below hbu)
            have HBu := hide (HBs.out.trans (hbu.mono HBs.out.size))
            obtain ⟨g, g2, rfl, rfl, hg, hg2, _, _, _, hcs⟩ := HHu.out.at_
            obtain ⟨_, _, cgo⟩ := hcs j hjl
            rw [HG.out] at cgo
            generalize atK (hs'.map sk) (j : Int) = xk at *
            generalize atL (hs'.map sk) (j : Int) = xl at *
            have NE : Nonempty (BelowOf wu) := ⟨⟨wu, Below.refl _ _⟩⟩
            have u0 : ∀ p : BelowOf wu, p.world.cell? ⟨g2, j, none⟩ = some (.bool true) := fun p => p.cell hg2 cgo
            clear hbk hbx bz hbt hbu hcs cgo AC
            go_wp2_with fail
            refine wp_region_quiet_below (by kernel_rfl) (by kernel_rfl) ?_
            repeat (go_big_quiet_step (fail))
            refine wpQuiet_nil ?_
            rintro Wq ⟨⟨_, hq⟩, rfl⟩
            have HHq := hide (HHu.out.below hq)
            have HBq := hide (HBu.out.trans (hq.mono HBu.out.size))
            clear hq u0 NE z0 z1 f0 f1
            go_wp2_with fail
            go_roundw
            case rel => exact ⟨j + 1, by omega, by go_num, HHq, HBq⟩
            case measure => simp [RowKit.intOf] <;> omega
          | false =>
            obtain ⟨hask, hatk, hatl⟩ := at_yes_sk hjl hgj
            rw [hask, hatk, hatl] at AC
            have HG := hide hgj
            obtain ⟨hx, hhx⟩ : ∃ x, hs'[j] = x := ⟨_, rfl⟩
            rw [hhx] at AC HG HRX
            obtain ⟨xk, xA, xcap, xl, xg⟩ := hx
            simp only at AC
            have HG : Hid (xg = false) := HG
            have HRX : Hid (NRow w5 xA xl ∧ xl.length ≤ 100) := HRX
            clear hask hatk hatl hgj
            go_wp2_with fail
            refine AC.out.mono ?_
            rintro e wt ⟨A9, c9, rfl, hA9, hbt⟩
            obtain ⟨hbk, hbx⟩ := box2 wt 24 (.string ⟨#[]⟩) (.slice none 0 0) (.string xk) (.slice A9 xl.length c9)
            have bz := Blk.new wt 24 #[.string ⟨#[]⟩, .slice none 0 0]
            obtain ⟨Wa, hWa⟩ : ∃ x, wt.alloc (.cells #[.string ⟨#[]⟩, .slice none 0 0] 24) = x := ⟨_, rfl⟩
            rw [hWa] at hbk hbx bz
            have z0 : Wa.cell? ⟨wt.heap.size, 0, none⟩ = some (.string ⟨#[]⟩) := bz.cell 0
            have z1 : Wa.cell? ⟨wt.heap.size, 1, none⟩ = some (.slice none 0 0) := bz.cell 1
            have f0 := bz.frozen 0
            have f1 := bz.frozen 1
            obtain ⟨wu, hwu⟩ : ∃ x, (Wa.setCell ⟨wt.heap.size, 0, none⟩ (.string xk)).setCell ⟨wt.heap.size, 1, none⟩ (.slice A9 xl.length c9) = x := ⟨_, rfl⟩
            rw [hwu] at hbk hbx
            have hN9 : NRow wt A9 xl := fun h0 => by
              obtain ⟨g9, rfl, _, hb9⟩ := hA9 h0
              exact blk_nrow hb9 h0
            have hbu := hbt.trans (hbx.mono hbt.size)
            have HHu := hide (HHs.out.below hbu)
            have HBu := hide (HBs.out.trans (hbu.mono HBs.out.size))
            obtain ⟨g, g2, rfl, rfl, hg, hg2, _, _, _, hcs⟩ := HHu.out.at_
            obtain ⟨cke, cro, cgo⟩ := hcs j hjl
            rw [hhx] at cke cro cgo
            have cgo : wu.cell? ⟨g2, j, none⟩ = some (.bool false) := by rw [← HG.out]; exact cgo
            have NE : Nonempty (BelowOf wu) := ⟨⟨wu, Below.refl _ _⟩⟩
            have u0 : ∀ p : BelowOf wu, p.world.cell? ⟨g2, j, none⟩ = some (.bool false) := fun p => p.cell hg2 cgo
            have u1 : ∀ p : BelowOf wu, p.world.cell? ⟨g, j * 2, none⟩ = some (.string xk) := fun p => p.cell hg cke
            have u2 : ∀ p : BelowOf wu, p.world.cell? ⟨g, j * 2 + 1, none⟩ = some (.slice xA xl.length xcap) := fun p => p.cell hg cro
            have u3 : ∀ p : BelowOf wu, p.world.cell? ⟨wt.heap.size, 0, none⟩ = some (.string xk) := fun p => p.cell hbk.lt (hbk.cell 0)
            have u4 : ∀ p : BelowOf wu, p.world.cell? ⟨wt.heap.size, 1, none⟩ = some (.slice A9 xl.length c9) := fun p => p.cell hbk.lt (hbk.cell 1)
            have SM : Hid (∀ p : BelowOf wu, Calls Tryd.prog 15 #[.agg #[.string xk, .slice A9 xl.length c9], .agg #[.string xk, .slice xA xl.length xcap]] p.world fun e w' => e = .returned (.bool true) ∧ Below p.world.heap.size p.world w') := hide (fun p => (Same_b xk xk A9 xA c9 xcap xl xl p.world ((hN9.below hbx).below p.below) (HRX.out.1.below (HBu.out.trans (p.below.mono HBu.out.size))) (by have := HRX.out.2; omega) (by have := HRX.out.2; omega)).mono fun e w' h => by simpa using h)
            clear hbk hbx bz hbt hbu hcs cke cro cgo hhx hA9 hN9 AC
            go_wp2_with fail
            refine wp_region_quiet_below (by kernel_rfl) (by kernel_rfl) ?_
            repeat (go_big_quiet_step (first
              | (go_at_call 15; exact calls_below (SM.out _))))
            refine wpQuiet_nil ?_
            rintro Wq ⟨⟨_, hq⟩, rfl⟩
            have HHq := hide (HHu.out.below hq)
            have HBq := hide (HBu.out.trans (hq.mono HBu.out.size))
            clear hq u0 u1 u2 u3 u4 NE SM z0 z1 f0 f1
            go_wp2_with fail
            go_roundw
            case rel => exact ⟨j + 1, by omega, by go_num, HHq, HBq⟩
            case measure => simp [RowKit.intOf] <;> omega
      · obtain ⟨e1, e2, e3⟩ := add_not (key := xkey) hadd
        rw [e3] at hpi
        rw [e1, e2]
        have HHi := hide (show HSt wi T w5.heap.size O1 O2 oc1 oc2 hs from ⟨hpi, HGi.out, HOi.out⟩)
        clear hpi hbi hki e1 e2 e3 AD
        by_cases hmx : mayL xl
        · rw [if_pos hmx]
          rw [decide_eq_true hmx] at MX
          have hge : ¬ hs.length < 32 := fun h9 => hadd ⟨hmx, by rw [List.length_map]; exact h9⟩
          have hltn : ¬ (hs.length : Int) < 32 := by omega
          clear hadd hmx
          go_wp2_with fail
          refine MX.out.mono ?_
          rintro e wj ⟨rfl, hbj⟩
          have HHj := hide (HHi.out.below hbj)
          have HBj := hide (HBi.out.trans (hbj.mono HBi.out.size))
          clear hbj MX y2 y3
          go_wp2_with fail
          clear hltn hge
          go_loopw [14] (fun vj ws => ∃ (j : Nat), j ≤ hs.length ∧ vj = .int .i64 j ∧ Hid (HSt ws T w5.heap.size O1 O2 oc1 oc2 hs) ∧ Hid (Below w5.heap.size w5 ws)) (fun vj _ => hs.length - (RowKit.intOf vj).toNat)
          case atStart => exact ⟨0, Nat.zero_le _, rfl, HHj, HBj⟩
          case round =>
            clear HHj HBj
            obtain ⟨j, hj, rfl, HHs, HBs⟩ := hrel
            rename World => ws
            have hl32 := HHs.out.lens.2
            by_cases hjl : j < hs.length
            rotate_left
            · have hjI : ¬ (j : Int) < (hs.length : Int) := by omega
              go_wp2_with fail
              go_roundw
              case rel => exact ⟨i + 1, hs, O1, O2, oc1, oc2, by omega, by go_num, rfl, rfl, HRD, HHs, HBs⟩
              case measure => simp [RowKit.intOf] <;> omega
            have hjI : (j : Int) < (hs.length : Int) := by omega
            have AC := hide (AtA T w5.heap.size (hs.map sk) (j : Int) ws HHs.out.tab)
            have hrd := HRD.out _ (List.getElem_mem hjl)
            have HRX := hide hrd
            clear hrd
            cases hgj : hs[j].gone with
            | true =>
              have hask := gone_ask hjl hgj
              rw [hask] at AC
              have HG := hide hgj
              clear hask hgj
              go_wp2_with fail
              refine AC.out.mono ?_
              rintro e wt ⟨A9, c9, rfl, _, hbt⟩
              obtain ⟨hbk, hbx⟩ := box2 wt 24 (.string ⟨#[]⟩) (.slice none 0 0) (.string (atK (hs.map sk) (j : Int))) (.slice A9 (atL (hs.map sk) (j : Int)).length c9)
              have bz := Blk.new wt 24 #[.string ⟨#[]⟩, .slice none 0 0]
              obtain ⟨Wa, hWa⟩ : ∃ x, wt.alloc (.cells #[.string ⟨#[]⟩, .slice none 0 0] 24) = x := ⟨_, rfl⟩
              rw [hWa] at hbk hbx bz
              have z0 : Wa.cell? ⟨wt.heap.size, 0, none⟩ = some (.string ⟨#[]⟩) := bz.cell 0
              have z1 : Wa.cell? ⟨wt.heap.size, 1, none⟩ = some (.slice none 0 0) := bz.cell 1
              have f0 := bz.frozen 0
              have f1 := bz.frozen 1
              obtain ⟨wu, hwu⟩ : ∃ x, (Wa.setCell ⟨wt.heap.size, 0, none⟩ (.string (atK (hs.map sk) (j : Int)))).setCell ⟨wt.heap.size, 1, none⟩ (.slice A9 (atL (hs.map sk) (j : Int)).length c9) = x := ⟨_, rfl⟩
              rw [hwu] at hbk hbx
              have hbu := hbt.trans (hbx.mono hbt.size)
              have HHu := hide (HHs.out.below hbu)
              have HBu := hide (HBs.out.trans (hbu.mono HBs.out.size))
              obtain ⟨g, g2, rfl, rfl, hg, hg2, _, _, _, hcs⟩ := HHu.out.at_
              obtain ⟨_, _, cgo⟩ := hcs j hjl
              rw [HG.out] at cgo
              generalize atK (hs.map sk) (j : Int) = xk at *
              generalize atL (hs.map sk) (j : Int) = xl at *
              have NE : Nonempty (BelowOf wu) := ⟨⟨wu, Below.refl _ _⟩⟩
              have u0 : ∀ p : BelowOf wu, p.world.cell? ⟨g2, j, none⟩ = some (.bool true) := fun p => p.cell hg2 cgo
              clear hbk hbx bz hbt hbu hcs cgo AC
              go_wp2_with fail
              refine wp_region_quiet_below (by kernel_rfl) (by kernel_rfl) ?_
              repeat (go_big_quiet_step (fail))
              refine wpQuiet_nil ?_
              rintro Wq ⟨⟨_, hq⟩, rfl⟩
              have HHq := hide (HHu.out.below hq)
              have HBq := hide (HBu.out.trans (hq.mono HBu.out.size))
              clear hq u0 NE z0 z1 f0 f1
              go_wp2_with fail
              go_roundw
              case rel => exact ⟨j + 1, by omega, by go_num, HHq, HBq⟩
              case measure => simp [RowKit.intOf] <;> omega
            | false =>
              obtain ⟨hask, hatk, hatl⟩ := at_yes_sk hjl hgj
              rw [hask, hatk, hatl] at AC
              have HG := hide hgj
              obtain ⟨hx, hhx⟩ : ∃ x, hs[j] = x := ⟨_, rfl⟩
              rw [hhx] at AC HG HRX
              obtain ⟨xk, xA, xcap, xl, xg⟩ := hx
              simp only at AC
              have HG : Hid (xg = false) := HG
              have HRX : Hid (NRow w5 xA xl ∧ xl.length ≤ 100) := HRX
              clear hask hatk hatl hgj
              go_wp2_with fail
              refine AC.out.mono ?_
              rintro e wt ⟨A9, c9, rfl, hA9, hbt⟩
              obtain ⟨hbk, hbx⟩ := box2 wt 24 (.string ⟨#[]⟩) (.slice none 0 0) (.string xk) (.slice A9 xl.length c9)
              have bz := Blk.new wt 24 #[.string ⟨#[]⟩, .slice none 0 0]
              obtain ⟨Wa, hWa⟩ : ∃ x, wt.alloc (.cells #[.string ⟨#[]⟩, .slice none 0 0] 24) = x := ⟨_, rfl⟩
              rw [hWa] at hbk hbx bz
              have z0 : Wa.cell? ⟨wt.heap.size, 0, none⟩ = some (.string ⟨#[]⟩) := bz.cell 0
              have z1 : Wa.cell? ⟨wt.heap.size, 1, none⟩ = some (.slice none 0 0) := bz.cell 1
              have f0 := bz.frozen 0
              have f1 := bz.frozen 1
              obtain ⟨wu, hwu⟩ : ∃ x, (Wa.setCell ⟨wt.heap.size, 0, none⟩ (.string xk)).setCell ⟨wt.heap.size, 1, none⟩ (.slice A9 xl.length c9) = x := ⟨_, rfl⟩
              rw [hwu] at hbk hbx
              have hN9 : NRow wt A9 xl := fun h0 => by
                obtain ⟨g9, rfl, _, hb9⟩ := hA9 h0
                exact blk_nrow hb9 h0
              have hbu := hbt.trans (hbx.mono hbt.size)
              have HHu := hide (HHs.out.below hbu)
              have HBu := hide (HBs.out.trans (hbu.mono HBs.out.size))
              obtain ⟨g, g2, rfl, rfl, hg, hg2, _, _, _, hcs⟩ := HHu.out.at_
              obtain ⟨cke, cro, cgo⟩ := hcs j hjl
              rw [hhx] at cke cro cgo
              have cgo : wu.cell? ⟨g2, j, none⟩ = some (.bool false) := by rw [← HG.out]; exact cgo
              have NE : Nonempty (BelowOf wu) := ⟨⟨wu, Below.refl _ _⟩⟩
              have u0 : ∀ p : BelowOf wu, p.world.cell? ⟨g2, j, none⟩ = some (.bool false) := fun p => p.cell hg2 cgo
              have u1 : ∀ p : BelowOf wu, p.world.cell? ⟨g, j * 2, none⟩ = some (.string xk) := fun p => p.cell hg cke
              have u2 : ∀ p : BelowOf wu, p.world.cell? ⟨g, j * 2 + 1, none⟩ = some (.slice xA xl.length xcap) := fun p => p.cell hg cro
              have u3 : ∀ p : BelowOf wu, p.world.cell? ⟨wt.heap.size, 0, none⟩ = some (.string xk) := fun p => p.cell hbk.lt (hbk.cell 0)
              have u4 : ∀ p : BelowOf wu, p.world.cell? ⟨wt.heap.size, 1, none⟩ = some (.slice A9 xl.length c9) := fun p => p.cell hbk.lt (hbk.cell 1)
              have SM : Hid (∀ p : BelowOf wu, Calls Tryd.prog 15 #[.agg #[.string xk, .slice A9 xl.length c9], .agg #[.string xk, .slice xA xl.length xcap]] p.world fun e w' => e = .returned (.bool true) ∧ Below p.world.heap.size p.world w') := hide (fun p => (Same_b xk xk A9 xA c9 xcap xl xl p.world ((hN9.below hbx).below p.below) (HRX.out.1.below (HBu.out.trans (p.below.mono HBu.out.size))) (by have := HRX.out.2; omega) (by have := HRX.out.2; omega)).mono fun e w' h => by simpa using h)
              clear hbk hbx bz hbt hbu hcs cke cro cgo hhx hA9 hN9 AC
              go_wp2_with fail
              refine wp_region_quiet_below (by kernel_rfl) (by kernel_rfl) ?_
              repeat (go_big_quiet_step (first
                | (go_at_call 15; exact calls_below (SM.out _))))
              refine wpQuiet_nil ?_
              rintro Wq ⟨⟨_, hq⟩, rfl⟩
              have HHq := hide (HHu.out.below hq)
              have HBq := hide (HBu.out.trans (hq.mono HBu.out.size))
              clear hq u0 u1 u2 u3 u4 NE SM z0 z1 f0 f1
              go_wp2_with fail
              go_roundw
              case rel => exact ⟨j + 1, by omega, by go_num, HHq, HBq⟩
              case measure => simp [RowKit.intOf] <;> omega
        · rw [if_neg hmx]
          rw [decide_eq_false hmx] at MX
          clear hadd hmx
          go_wp2_with fail
          refine MX.out.mono ?_
          rintro e wj ⟨rfl, hbj⟩
          have HHj := hide (HHi.out.below hbj)
          have HBj := hide (HBi.out.trans (hbj.mono HBi.out.size))
          clear hbj MX y2 y3
          go_wp2_with fail
          go_loopw [14] (fun vj ws => ∃ (j : Nat), j ≤ hs.length ∧ vj = .int .i64 j ∧ Hid (HSt ws T w5.heap.size O1 O2 oc1 oc2 hs) ∧ Hid (Below w5.heap.size w5 ws)) (fun vj _ => hs.length - (RowKit.intOf vj).toNat)
          case atStart => exact ⟨0, Nat.zero_le _, rfl, HHj, HBj⟩
          case round =>
            clear HHj HBj
            obtain ⟨j, hj, rfl, HHs, HBs⟩ := hrel
            rename World => ws
            have hl32 := HHs.out.lens.2
            by_cases hjl : j < hs.length
            rotate_left
            · have hjI : ¬ (j : Int) < (hs.length : Int) := by omega
              go_wp2_with fail
              go_roundw
              case rel => exact ⟨i + 1, hs, O1, O2, oc1, oc2, by omega, by go_num, rfl, rfl, HRD, HHs, HBs⟩
              case measure => simp [RowKit.intOf] <;> omega
            have hjI : (j : Int) < (hs.length : Int) := by omega
            have AC := hide (AtA T w5.heap.size (hs.map sk) (j : Int) ws HHs.out.tab)
            have hrd := HRD.out _ (List.getElem_mem hjl)
            have HRX := hide hrd
            clear hrd
            cases hgj : hs[j].gone with
            | true =>
              have hask := gone_ask hjl hgj
              rw [hask] at AC
              have HG := hide hgj
              clear hask hgj
              go_wp2_with fail
              refine AC.out.mono ?_
              rintro e wt ⟨A9, c9, rfl, _, hbt⟩
              obtain ⟨hbk, hbx⟩ := box2 wt 24 (.string ⟨#[]⟩) (.slice none 0 0) (.string (atK (hs.map sk) (j : Int))) (.slice A9 (atL (hs.map sk) (j : Int)).length c9)
              have bz := Blk.new wt 24 #[.string ⟨#[]⟩, .slice none 0 0]
              obtain ⟨Wa, hWa⟩ : ∃ x, wt.alloc (.cells #[.string ⟨#[]⟩, .slice none 0 0] 24) = x := ⟨_, rfl⟩
              rw [hWa] at hbk hbx bz
              have z0 : Wa.cell? ⟨wt.heap.size, 0, none⟩ = some (.string ⟨#[]⟩) := bz.cell 0
              have z1 : Wa.cell? ⟨wt.heap.size, 1, none⟩ = some (.slice none 0 0) := bz.cell 1
              have f0 := bz.frozen 0
              have f1 := bz.frozen 1
              obtain ⟨wu, hwu⟩ : ∃ x, (Wa.setCell ⟨wt.heap.size, 0, none⟩ (.string (atK (hs.map sk) (j : Int)))).setCell ⟨wt.heap.size, 1, none⟩ (.slice A9 (atL (hs.map sk) (j : Int)).length c9) = x := ⟨_, rfl⟩
              rw [hwu] at hbk hbx
              have hbu := hbt.trans (hbx.mono hbt.size)
              have HHu := hide (HHs.out.below hbu)
              have HBu := hide (HBs.out.trans (hbu.mono HBs.out.size))
              obtain ⟨g, g2, rfl, rfl, hg, hg2, _, _, _, hcs⟩ := HHu.out.at_
              obtain ⟨_, _, cgo⟩ := hcs j hjl
              rw [HG.out] at cgo
              generalize atK (hs.map sk) (j : Int) = xk at *
              generalize atL (hs.map sk) (j : Int) = xl at *
              have NE : Nonempty (BelowOf wu) := ⟨⟨wu, Below.refl _ _⟩⟩
              have u0 : ∀ p : BelowOf wu, p.world.cell? ⟨g2, j, none⟩ = some (.bool true) := fun p => p.cell hg2 cgo
              clear hbk hbx bz hbt hbu hcs cgo AC
              go_wp2_with fail
              refine wp_region_quiet_below (by kernel_rfl) (by kernel_rfl) ?_
              repeat (go_big_quiet_step (fail))
              refine wpQuiet_nil ?_
              rintro Wq ⟨⟨_, hq⟩, rfl⟩
              have HHq := hide (HHu.out.below hq)
              have HBq := hide (HBu.out.trans (hq.mono HBu.out.size))
              clear hq u0 NE z0 z1 f0 f1
              go_wp2_with fail
              go_roundw
              case rel => exact ⟨j + 1, by omega, by go_num, HHq, HBq⟩
              case measure => simp [RowKit.intOf] <;> omega
            | false =>
              obtain ⟨hask, hatk, hatl⟩ := at_yes_sk hjl hgj
              rw [hask, hatk, hatl] at AC
              have HG := hide hgj
              obtain ⟨hx, hhx⟩ : ∃ x, hs[j] = x := ⟨_, rfl⟩
              rw [hhx] at AC HG HRX
              obtain ⟨xk, xA, xcap, xl, xg⟩ := hx
              simp only at AC
              have HG : Hid (xg = false) := HG
              have HRX : Hid (NRow w5 xA xl ∧ xl.length ≤ 100) := HRX
              clear hask hatk hatl hgj
              go_wp2_with fail
              refine AC.out.mono ?_
              rintro e wt ⟨A9, c9, rfl, hA9, hbt⟩
              obtain ⟨hbk, hbx⟩ := box2 wt 24 (.string ⟨#[]⟩) (.slice none 0 0) (.string xk) (.slice A9 xl.length c9)
              have bz := Blk.new wt 24 #[.string ⟨#[]⟩, .slice none 0 0]
              obtain ⟨Wa, hWa⟩ : ∃ x, wt.alloc (.cells #[.string ⟨#[]⟩, .slice none 0 0] 24) = x := ⟨_, rfl⟩
              rw [hWa] at hbk hbx bz
              have z0 : Wa.cell? ⟨wt.heap.size, 0, none⟩ = some (.string ⟨#[]⟩) := bz.cell 0
              have z1 : Wa.cell? ⟨wt.heap.size, 1, none⟩ = some (.slice none 0 0) := bz.cell 1
              have f0 := bz.frozen 0
              have f1 := bz.frozen 1
              obtain ⟨wu, hwu⟩ : ∃ x, (Wa.setCell ⟨wt.heap.size, 0, none⟩ (.string xk)).setCell ⟨wt.heap.size, 1, none⟩ (.slice A9 xl.length c9) = x := ⟨_, rfl⟩
              rw [hwu] at hbk hbx
              have hN9 : NRow wt A9 xl := fun h0 => by
                obtain ⟨g9, rfl, _, hb9⟩ := hA9 h0
                exact blk_nrow hb9 h0
              have hbu := hbt.trans (hbx.mono hbt.size)
              have HHu := hide (HHs.out.below hbu)
              have HBu := hide (HBs.out.trans (hbu.mono HBs.out.size))
              obtain ⟨g, g2, rfl, rfl, hg, hg2, _, _, _, hcs⟩ := HHu.out.at_
              obtain ⟨cke, cro, cgo⟩ := hcs j hjl
              rw [hhx] at cke cro cgo
              have cgo : wu.cell? ⟨g2, j, none⟩ = some (.bool false) := by rw [← HG.out]; exact cgo
              have NE : Nonempty (BelowOf wu) := ⟨⟨wu, Below.refl _ _⟩⟩
              have u0 : ∀ p : BelowOf wu, p.world.cell? ⟨g2, j, none⟩ = some (.bool false) := fun p => p.cell hg2 cgo
              have u1 : ∀ p : BelowOf wu, p.world.cell? ⟨g, j * 2, none⟩ = some (.string xk) := fun p => p.cell hg cke
              have u2 : ∀ p : BelowOf wu, p.world.cell? ⟨g, j * 2 + 1, none⟩ = some (.slice xA xl.length xcap) := fun p => p.cell hg cro
              have u3 : ∀ p : BelowOf wu, p.world.cell? ⟨wt.heap.size, 0, none⟩ = some (.string xk) := fun p => p.cell hbk.lt (hbk.cell 0)
              have u4 : ∀ p : BelowOf wu, p.world.cell? ⟨wt.heap.size, 1, none⟩ = some (.slice A9 xl.length c9) := fun p => p.cell hbk.lt (hbk.cell 1)
              have SM : Hid (∀ p : BelowOf wu, Calls Tryd.prog 15 #[.agg #[.string xk, .slice A9 xl.length c9], .agg #[.string xk, .slice xA xl.length xcap]] p.world fun e w' => e = .returned (.bool true) ∧ Below p.world.heap.size p.world w') := hide (fun p => (Same_b xk xk A9 xA c9 xcap xl xl p.world ((hN9.below hbx).below p.below) (HRX.out.1.below (HBu.out.trans (p.below.mono HBu.out.size))) (by have := HRX.out.2; omega) (by have := HRX.out.2; omega)).mono fun e w' h => by simpa using h)
              clear hbk hbx bz hbt hbu hcs cke cro cgo hhx hA9 hN9 AC
              go_wp2_with fail
              refine wp_region_quiet_below (by kernel_rfl) (by kernel_rfl) ?_
              repeat (go_big_quiet_step (first
                | (go_at_call 15; exact calls_below (SM.out _))))
              refine wpQuiet_nil ?_
              rintro Wq ⟨⟨_, hq⟩, rfl⟩
              have HHq := hide (HHu.out.below hq)
              have HBq := hide (HBu.out.trans (hq.mono HBu.out.size))
              clear hq u0 u1 u2 u3 u4 NE SM z0 z1 f0 f1
              go_wp2_with fail
              go_roundw
              case rel => exact ⟨j + 1, by omega, by go_num, HHq, HBq⟩
              case measure => simp [RowKit.intOf] <;> omega
    · -- a handle is freed
      obtain ⟨k, hkl, hkw⟩ := rem_in h hs.length (by omega) (by omega)
      have HKW := hide hkw
      clear hkw
      have hkI : (k : Int) < (hs.length : Int) := by omega
      obtain ⟨g2, hO2⟩ : ∃ g2, O2 = some ⟨g2, 0, none⟩ := by
        obtain ⟨_, g2, _, h, _⟩ := HHg.out.at_
        exact ⟨g2, h⟩
      subst hO2
      cases hgx : hs[k].gone with
      | true =>
        have ASKX := gone_ask hkl hgx
        have HGX := hide hgx
        clear hgx
        have HASK := hide (show askS (hs.map sk) (k : Int) = 110 from ASKX)
        clear ASKX
        go_wp2_with fail
        rw [HKW.out]
        let R : Nat → Value → World → Prop := fun sl u _ => match sl with
          | 98 => u = .pointer (some ⟨T, 0, none⟩)
          | 99 => u = .int .i64 (k : Int)
          | 100 => u = .int .i64 110
          | 101 => u = .bool false
          | 102 => u = .slice (some ⟨g2, 0, none⟩) hs.length oc2
          | 103 => u = .int .i64 (k : Int)
          | 104 => u = .pointer (some ⟨g2, k, none⟩)
          | 105 => u = .bool true
          | 106 => u = .bool false
          | _ => True
        let J : (Nat → Prop) → World → Prop := fun D w1 => (D 100 → PA w1 T w5.heap.size ((hs.set k (hs[k]'hkl).freed).map sk)) ∧ (¬ D 100 → PA w1 T w5.heap.size (hs.map sk)) ∧ KeepsBut [75] wg w1 ∧ Below w5.heap.size w5 w1
        have Jc : ∀ (D D' : Nat → Prop) (w1 : World), (D 100 ↔ D' 100) → J D w1 → J D' w1 := fun D D' w1 h1 ⟨j1, j2, j3⟩ => ⟨fun h => j1 (h1.2 h), fun h => j2 fun h' => h (h1.1 h'), j3⟩
        refine wp_region_relS R (fun _ _ => True) J (by kernel_rfl) (by kernel_rfl) (by kernel_rfl) (fun t v _ _ h1 _ => ?monox) ⟨fun h => h.elim, fun _ => HHg.out.tab.below (Below.refl _ _).drew, KeepsBut.of_below (Below.refl _ _).drew, HBg.out.drew⟩ ?stepx ?finx
        case monox => exact h1
        case finx =>
          intro ff wi hj hr
          obtain ⟨j1, _, j3, j4⟩ := hj
          have hp1 := j1 (by decide)
          have hgro := KeepsBut.own j3 HHg.out.gro (by decide)
          have hgon := KeepsBut.own j3 HHg.out.gon (by decide)
          have e106 : ff 106 = .bool false := hr 106 (by decide)
          obtain ⟨csg, hbg⟩ := own_type hgon
          have HHi := hide (HSt.free hkl hp1 hgro hgon)
          have HBi := hide (j4.setCell (p := ⟨g2, k, none⟩) (by show w5.heap.size ≤ g2; exact (own_block hgon rfl).1) (.bool true))
          have cgx : wi.cell? ⟨g2, k, none⟩ = some (.bool true) := by
            obtain ⟨g9, hg9, _, _, _, _, _, hc9⟩ := own_cell hgon (by omega)
            have : g9 = g2 := by injection hg9 with h; injection h with h; exact h.symm
            subst this
            rw [hc9 k _ (gnC_at hs k hkl), HGX.out]
          have cgf := hbg.frozen k
          have RDi : Hid (∀ h ∈ hs.set k (hs[k]'hkl).freed, NRow w5 h.A h.l ∧ h.l.length ≤ 100) := hide (fun h hm => by
            rcases List.mem_or_eq_of_mem_set hm with hm | rfl
            · exact HRD.out h hm
            · exact HRD.out hs[k] (List.getElem_mem hkl))
          clear hr j1 j3 j4 Jc hp1 hgro hgon hbg
          simp only [putAll, slotsOf, List.filterMap_cons, List.filterMap_nil, List.foldl_cons, List.foldl_nil, Act.put, e106]
          simp only [List.setIfInBounds_toArray, List.set_cons_succ, List.set_cons_zero]
          have hkI2 : (k : Int) < (hs.length : Int) := by omega
          go_wp2_with fail
          clear cgx cgf
          have hsl : (hs.set k (hs[k]'hkl).freed).length = hs.length := List.length_set ..
          rw [← hsl]
          clear hkI2
          generalize hs.set k (hs[k]'hkl).freed = hs' at *
          clear hsl
          obtain ⟨O3, hO3⟩ : ∃ x, (some ⟨g2, 0, none⟩ : Option Addr) = x := ⟨_, rfl⟩
          rw [hO3] at HHi ⊢
          clear hO3
          go_loopw [14] (fun vj ws => ∃ (j : Nat), j ≤ hs'.length ∧ vj = .int .i64 j ∧ Hid (HSt ws T w5.heap.size O1 O3 oc1 oc2 hs') ∧ Hid (Below w5.heap.size w5 ws)) (fun vj _ => hs'.length - (RowKit.intOf vj).toNat)
          case atStart => exact ⟨0, Nat.zero_le _, rfl, HHi, HBi⟩
          case round =>
            clear HHi HBi
            obtain ⟨j, hj, rfl, HHs, HBs⟩ := hrel
            rename World => ws
            have hl32 := HHs.out.lens.2
            by_cases hjl : j < hs'.length
            rotate_left
            · have hjI : ¬ (j : Int) < (hs'.length : Int) := by omega
              go_wp2_with fail
              go_roundw
              case rel => exact ⟨i + 1, hs', O1, O3, oc1, oc2, by omega, by go_num, rfl, rfl, RDi, HHs, HBs⟩
              case measure => simp [RowKit.intOf] <;> omega
            have hjI : (j : Int) < (hs'.length : Int) := by omega
            have AC := hide (AtA T w5.heap.size (hs'.map sk) (j : Int) ws HHs.out.tab)
            have hrd := RDi.out _ (List.getElem_mem hjl)
            have HRX := hide hrd
            clear hrd
            cases hgj : hs'[j].gone with
            | true =>
              have hask := gone_ask hjl hgj
              rw [hask] at AC
              have HG := hide hgj
              clear hask hgj
              go_wp2_with fail
              refine AC.out.mono ?_
              rintro e wt ⟨A9, c9, rfl, _, hbt⟩
              obtain ⟨hbk, hbx⟩ := box2 wt 24 (.string ⟨#[]⟩) (.slice none 0 0) (.string (atK (hs'.map sk) (j : Int))) (.slice A9 (atL (hs'.map sk) (j : Int)).length c9)
              have bz := Blk.new wt 24 #[.string ⟨#[]⟩, .slice none 0 0]
              obtain ⟨Wa, hWa⟩ : ∃ x, wt.alloc (.cells #[.string ⟨#[]⟩, .slice none 0 0] 24) = x := ⟨_, rfl⟩
              rw [hWa] at hbk hbx bz
              have z0 : Wa.cell? ⟨wt.heap.size, 0, none⟩ = some (.string ⟨#[]⟩) := bz.cell 0
              have z1 : Wa.cell? ⟨wt.heap.size, 1, none⟩ = some (.slice none 0 0) := bz.cell 1
              have f0 := bz.frozen 0
              have f1 := bz.frozen 1
              obtain ⟨wu, hwu⟩ : ∃ x, (Wa.setCell ⟨wt.heap.size, 0, none⟩ (.string (atK (hs'.map sk) (j : Int)))).setCell ⟨wt.heap.size, 1, none⟩ (.slice A9 (atL (hs'.map sk) (j : Int)).length c9) = x := ⟨_, rfl⟩
              rw [hwu] at hbk hbx
              have hbu := hbt.trans (hbx.mono hbt.size)
              have HHu := hide (HHs.out.below hbu)
              have HBu := hide (HBs.out.trans (hbu.mono HBs.out.size))
              obtain ⟨g, g2, rfl, rfl, hg, hg2, _, _, _, hcs⟩ := HHu.out.at_
              obtain ⟨_, _, cgo⟩ := hcs j hjl
              rw [HG.out] at cgo
              generalize atK (hs'.map sk) (j : Int) = xk at *
              generalize atL (hs'.map sk) (j : Int) = xl at *
              have NE : Nonempty (BelowOf wu) := ⟨⟨wu, Below.refl _ _⟩⟩
              have u0 : ∀ p : BelowOf wu, p.world.cell? ⟨g2, j, none⟩ = some (.bool true) := fun p => p.cell hg2 cgo
              clear hbk hbx bz hbt hbu hcs cgo AC
              go_wp2_with fail
              refine wp_region_quiet_below (by kernel_rfl) (by kernel_rfl) ?_
              repeat (go_big_quiet_step (fail))
              refine wpQuiet_nil ?_
              rintro Wq ⟨⟨_, hq⟩, rfl⟩
              have HHq := hide (HHu.out.below hq)
              have HBq := hide (HBu.out.trans (hq.mono HBu.out.size))
              clear hq u0 NE z0 z1 f0 f1
              go_wp2_with fail
              go_roundw
              case rel => exact ⟨j + 1, by omega, by go_num, HHq, HBq⟩
              case measure => simp [RowKit.intOf] <;> omega
            | false =>
              obtain ⟨hask, hatk, hatl⟩ := at_yes_sk hjl hgj
              rw [hask, hatk, hatl] at AC
              have HG := hide hgj
              obtain ⟨hx, hhx⟩ : ∃ x, hs'[j] = x := ⟨_, rfl⟩
              rw [hhx] at AC HG HRX
              obtain ⟨xk, xA, xcap, xl, xg⟩ := hx
              simp only at AC
              have HG : Hid (xg = false) := HG
              have HRX : Hid (NRow w5 xA xl ∧ xl.length ≤ 100) := HRX
              clear hask hatk hatl hgj
              go_wp2_with fail
              refine AC.out.mono ?_
              rintro e wt ⟨A9, c9, rfl, hA9, hbt⟩
              obtain ⟨hbk, hbx⟩ := box2 wt 24 (.string ⟨#[]⟩) (.slice none 0 0) (.string xk) (.slice A9 xl.length c9)
              have bz := Blk.new wt 24 #[.string ⟨#[]⟩, .slice none 0 0]
              obtain ⟨Wa, hWa⟩ : ∃ x, wt.alloc (.cells #[.string ⟨#[]⟩, .slice none 0 0] 24) = x := ⟨_, rfl⟩
              rw [hWa] at hbk hbx bz
              have z0 : Wa.cell? ⟨wt.heap.size, 0, none⟩ = some (.string ⟨#[]⟩) := bz.cell 0
              have z1 : Wa.cell? ⟨wt.heap.size, 1, none⟩ = some (.slice none 0 0) := bz.cell 1
              have f0 := bz.frozen 0
              have f1 := bz.frozen 1
              obtain ⟨wu, hwu⟩ : ∃ x, (Wa.setCell ⟨wt.heap.size, 0, none⟩ (.string xk)).setCell ⟨wt.heap.size, 1, none⟩ (.slice A9 xl.length c9) = x := ⟨_, rfl⟩
              rw [hwu] at hbk hbx
              have hN9 : NRow wt A9 xl := fun h0 => by
                obtain ⟨g9, rfl, _, hb9⟩ := hA9 h0
                exact blk_nrow hb9 h0
              have hbu := hbt.trans (hbx.mono hbt.size)
              have HHu := hide (HHs.out.below hbu)
              have HBu := hide (HBs.out.trans (hbu.mono HBs.out.size))
              obtain ⟨g, g2, rfl, rfl, hg, hg2, _, _, _, hcs⟩ := HHu.out.at_
              obtain ⟨cke, cro, cgo⟩ := hcs j hjl
              rw [hhx] at cke cro cgo
              have cgo : wu.cell? ⟨g2, j, none⟩ = some (.bool false) := by rw [← HG.out]; exact cgo
              have NE : Nonempty (BelowOf wu) := ⟨⟨wu, Below.refl _ _⟩⟩
              have u0 : ∀ p : BelowOf wu, p.world.cell? ⟨g2, j, none⟩ = some (.bool false) := fun p => p.cell hg2 cgo
              have u1 : ∀ p : BelowOf wu, p.world.cell? ⟨g, j * 2, none⟩ = some (.string xk) := fun p => p.cell hg cke
              have u2 : ∀ p : BelowOf wu, p.world.cell? ⟨g, j * 2 + 1, none⟩ = some (.slice xA xl.length xcap) := fun p => p.cell hg cro
              have u3 : ∀ p : BelowOf wu, p.world.cell? ⟨wt.heap.size, 0, none⟩ = some (.string xk) := fun p => p.cell hbk.lt (hbk.cell 0)
              have u4 : ∀ p : BelowOf wu, p.world.cell? ⟨wt.heap.size, 1, none⟩ = some (.slice A9 xl.length c9) := fun p => p.cell hbk.lt (hbk.cell 1)
              have SM : Hid (∀ p : BelowOf wu, Calls Tryd.prog 15 #[.agg #[.string xk, .slice A9 xl.length c9], .agg #[.string xk, .slice xA xl.length xcap]] p.world fun e w' => e = .returned (.bool true) ∧ Below p.world.heap.size p.world w') := hide (fun p => (Same_b xk xk A9 xA c9 xcap xl xl p.world ((hN9.below hbx).below p.below) (HRX.out.1.below (HBu.out.trans (p.below.mono HBu.out.size))) (by have := HRX.out.2; omega) (by have := HRX.out.2; omega)).mono fun e w' h => by simpa using h)
              clear hbk hbx bz hbt hbu hcs cke cro cgo hhx hA9 hN9 AC
              go_wp2_with fail
              refine wp_region_quiet_below (by kernel_rfl) (by kernel_rfl) ?_
              repeat (go_big_quiet_step (first
                | (go_at_call 15; exact calls_below (SM.out _))))
              refine wpQuiet_nil ?_
              rintro Wq ⟨⟨_, hq⟩, rfl⟩
              have HHq := hide (HHu.out.below hq)
              have HBq := hide (HBu.out.trans (hq.mono HBu.out.size))
              clear hq u0 u1 u2 u3 u4 NE SM z0 z1 f0 f1
              go_wp2_with fail
              go_roundw
              case rel => exact ⟨j + 1, by omega, by go_num, HHq, HBq⟩
              case measure => simp [RowKit.intOf] <;> omega
        case stepx =>
          intro o ho
          simp only [List.mem_cons, List.not_mem_nil, or_false] at ho
          rcases ho with rfl | rfl | rfl | rfl | rfl | rfl | rfl | rfl | rfl
          · intro D a w1 hD hj hsm hr
            have e5 : a.tmps.getD 5 undef = .pointer (some ⟨T, 0, none⟩) := hsm 5 (by decide)
            rw [Array.getD_eq_getD_getElem?] at e5
            unfold Oper.wp
            simp only [execOp, Act.eval, Array.getD_eq_getD_getElem?, e5]
            go_simp
            exact ⟨_, rfl, rfl, Jc D (fun t => D t ∨ 98 = t) w1 (by simp) hj⟩
          · intro D a w1 hD hj hsm hr
            have e13 : a.tmps.getD 13 undef = .int .i64 (k : Int) := hsm 13 (by decide)
            rw [Array.getD_eq_getD_getElem?] at e13
            unfold Oper.wp
            simp only [execOp, Act.eval, Array.getD_eq_getD_getElem?, e13]
            go_simp
            exact ⟨_, rfl, rfl, Jc D (fun t => D t ∨ 99 = t) w1 (by simp) hj⟩
          · intro D a w1 hD hj hsm hr
            have e98 : a.tmps.getD 98 undef = .pointer (some ⟨T, 0, none⟩) := hr 98 (by decide) (by apply Array.mem_toList_iff.1; repeat (first | exact List.Mem.head _ | apply List.Mem.tail))
            have e99 : a.tmps.getD 99 undef = .int .i64 (k : Int) := hr 99 (by decide) (by apply Array.mem_toList_iff.1; repeat (first | exact List.Mem.head _ | apply List.Mem.tail))
            rw [Array.getD_eq_getD_getElem?] at e98
            rw [Array.getD_eq_getD_getElem?] at e99
            unfold Oper.wp
            simp only [execOp, Act.eval, Array.getD_eq_getD_getElem?, e98, e99]
            go_simp
            refine (FreeA T w5.heap.size (hs.map sk) (k : Int) w1 (hj.2.1 (hD 100 rfl))).mono ?_
            rintro e w2 ⟨rfl, hp, hb, hk, _⟩
            rw [free_eq hkl] at hp
            exact ⟨_, rfl, by rw [HASK.out]; rfl, fun _ => hp, fun hn => absurd (.inr rfl) hn, hj.2.2.1.trans hk, hj.2.2.2.trans hb⟩
          · intro D a w1 hD hj hsm hr
            have e100 : a.tmps.getD 100 undef = .int .i64 110 := hr 100 (by decide) (by apply Array.mem_toList_iff.1; repeat (first | exact List.Mem.head _ | apply List.Mem.tail))
            rw [Array.getD_eq_getD_getElem?] at e100
            unfold Oper.wp
            simp only [execOp, Act.eval, Array.getD_eq_getD_getElem?, e100]
            go_simp
            exact ⟨_, rfl, rfl, Jc D (fun t => D t ∨ 101 = t) w1 (by simp) hj⟩
          · intro D a w1 hD hj hsm hr
            have e8 : a.tmps.getD 8 undef = .slice (some ⟨g2, 0, none⟩) hs.length oc2 := hsm 8 (by decide)
            rw [Array.getD_eq_getD_getElem?] at e8
            unfold Oper.wp
            simp only [execOp, Act.eval, Array.getD_eq_getD_getElem?, e8]
            go_simp
            exact ⟨_, rfl, rfl, Jc D (fun t => D t ∨ 102 = t) w1 (by simp) hj⟩
          · intro D a w1 hD hj hsm hr
            have e13 : a.tmps.getD 13 undef = .int .i64 (k : Int) := hsm 13 (by decide)
            rw [Array.getD_eq_getD_getElem?] at e13
            unfold Oper.wp
            simp only [execOp, Act.eval, Array.getD_eq_getD_getElem?, e13]
            go_simp
            exact ⟨_, rfl, rfl, Jc D (fun t => D t ∨ 103 = t) w1 (by simp) hj⟩
          · intro D a w1 hD hj hsm hr
            have e102 : a.tmps.getD 102 undef = .slice (some ⟨g2, 0, none⟩) hs.length oc2 := hr 102 (by decide) (by apply Array.mem_toList_iff.1; repeat (first | exact List.Mem.head _ | apply List.Mem.tail))
            have e103 : a.tmps.getD 103 undef = .int .i64 (k : Int) := hr 103 (by decide) (by apply Array.mem_toList_iff.1; repeat (first | exact List.Mem.head _ | apply List.Mem.tail))
            have hkI3 : (k : Int) < (hs.length : Int) := by omega
            rw [Array.getD_eq_getD_getElem?] at e102
            rw [Array.getD_eq_getD_getElem?] at e103
            unfold Oper.wp
            simp only [execOp, Act.eval, Array.getD_eq_getD_getElem?, e102, e103]
            go_simp
            exact ⟨_, rfl, rfl, Jc D (fun t => D t ∨ 104 = t) w1 (by simp) hj⟩
          · intro D a w1 hD hj hsm hr
            have e104 : a.tmps.getD 104 undef = .pointer (some ⟨g2, k, none⟩) := hr 104 (by decide) (by apply Array.mem_toList_iff.1; repeat (first | exact List.Mem.head _ | apply List.Mem.tail))
            have cc0 : w1.cell? ⟨g2, k, none⟩ = some (.bool true) := by
              obtain ⟨g9, hg9, _, _, _, _, _, hc9⟩ := own_cell (KeepsBut.own hj.2.2.1 HHg.out.gon (by decide)) (by omega)
              have : g9 = g2 := by injection hg9 with h; injection h with h; exact h.symm
              subst this
              rw [hc9 k _ (gnC_at hs k hkl), HGX.out]
            rw [Array.getD_eq_getD_getElem?] at e104
            unfold Oper.wp
            simp only [execOp, Act.eval, Array.getD_eq_getD_getElem?, e104]
            go_simp
            exact ⟨_, rfl, rfl, Jc D (fun t => D t ∨ 105 = t) w1 (by simp) hj⟩
          · intro D a w1 hD hj hsm hr
            have e101 : a.tmps.getD 101 undef = .bool false := hr 101 (by decide) (by apply Array.mem_toList_iff.1; repeat (first | exact List.Mem.head _ | apply List.Mem.tail))
            have e105 : a.tmps.getD 105 undef = .bool true := hr 105 (by decide) (by apply Array.mem_toList_iff.1; repeat (first | exact List.Mem.head _ | apply List.Mem.tail))
            rw [Array.getD_eq_getD_getElem?] at e101
            rw [Array.getD_eq_getD_getElem?] at e105
            unfold Oper.wp
            simp only [execOp, Act.eval, Array.getD_eq_getD_getElem?, e101, e105]
            go_simp
            exact ⟨_, rfl, rfl, Jc D (fun t => D t ∨ 106 = t) w1 (by simp) hj⟩
      | false =>
        have ASKX := (at_yes_sk hkl hgx).1
        have HGX := hide hgx
        clear hgx
        have HASK := hide (show askS (hs.map sk) (k : Int) = 0 from ASKX)
        clear ASKX
        go_wp2_with fail
        rw [HKW.out]
        let R : Nat → Value → World → Prop := fun sl u _ => match sl with
          | 98 => u = .pointer (some ⟨T, 0, none⟩)
          | 99 => u = .int .i64 (k : Int)
          | 100 => u = .int .i64 0
          | 101 => u = .bool true
          | 102 => u = .slice (some ⟨g2, 0, none⟩) hs.length oc2
          | 103 => u = .int .i64 (k : Int)
          | 104 => u = .pointer (some ⟨g2, k, none⟩)
          | 105 => u = .bool false
          | 106 => u = .bool false
          | _ => True
        let J : (Nat → Prop) → World → Prop := fun D w1 => (D 100 → PA w1 T w5.heap.size ((hs.set k (hs[k]'hkl).freed).map sk)) ∧ (¬ D 100 → PA w1 T w5.heap.size (hs.map sk)) ∧ KeepsBut [75] wg w1 ∧ Below w5.heap.size w5 w1
        have Jc : ∀ (D D' : Nat → Prop) (w1 : World), (D 100 ↔ D' 100) → J D w1 → J D' w1 := fun D D' w1 h1 ⟨j1, j2, j3⟩ => ⟨fun h => j1 (h1.2 h), fun h => j2 fun h' => h (h1.1 h'), j3⟩
        refine wp_region_relS R (fun _ _ => True) J (by kernel_rfl) (by kernel_rfl) (by kernel_rfl) (fun t v _ _ h1 _ => ?monoy) ⟨fun h => h.elim, fun _ => HHg.out.tab.below (Below.refl _ _).drew, KeepsBut.of_below (Below.refl _ _).drew, HBg.out.drew⟩ ?stepy ?finy
        case monoy => exact h1
        case finy =>
          intro ff wi hj hr
          obtain ⟨j1, _, j3, j4⟩ := hj
          have hp1 := j1 (by decide)
          have hgro := KeepsBut.own j3 HHg.out.gro (by decide)
          have hgon := KeepsBut.own j3 HHg.out.gon (by decide)
          have e106 : ff 106 = .bool false := hr 106 (by decide)
          obtain ⟨csg, hbg⟩ := own_type hgon
          have HHi := hide (HSt.free hkl hp1 hgro hgon)
          have HBi := hide (j4.setCell (p := ⟨g2, k, none⟩) (by show w5.heap.size ≤ g2; exact (own_block hgon rfl).1) (.bool true))
          have cgx : wi.cell? ⟨g2, k, none⟩ = some (.bool false) := by
            obtain ⟨g9, hg9, _, _, _, _, _, hc9⟩ := own_cell hgon (by omega)
            have : g9 = g2 := by injection hg9 with h; injection h with h; exact h.symm
            subst this
            rw [hc9 k _ (gnC_at hs k hkl), HGX.out]
          have cgf := hbg.frozen k
          have RDi : Hid (∀ h ∈ hs.set k (hs[k]'hkl).freed, NRow w5 h.A h.l ∧ h.l.length ≤ 100) := hide (fun h hm => by
            rcases List.mem_or_eq_of_mem_set hm with hm | rfl
            · exact HRD.out h hm
            · exact HRD.out hs[k] (List.getElem_mem hkl))
          clear hr j1 j3 j4 Jc hp1 hgro hgon hbg
          simp only [putAll, slotsOf, List.filterMap_cons, List.filterMap_nil, List.foldl_cons, List.foldl_nil, Act.put, e106]
          simp only [List.setIfInBounds_toArray, List.set_cons_succ, List.set_cons_zero]
          have hkI2 : (k : Int) < (hs.length : Int) := by omega
          go_wp2_with fail
          clear cgx cgf
          have hsl : (hs.set k (hs[k]'hkl).freed).length = hs.length := List.length_set ..
          rw [← hsl]
          clear hkI2
          generalize hs.set k (hs[k]'hkl).freed = hs' at *
          clear hsl
          obtain ⟨O3, hO3⟩ : ∃ x, (some ⟨g2, 0, none⟩ : Option Addr) = x := ⟨_, rfl⟩
          rw [hO3] at HHi ⊢
          clear hO3
          go_loopw [14] (fun vj ws => ∃ (j : Nat), j ≤ hs'.length ∧ vj = .int .i64 j ∧ Hid (HSt ws T w5.heap.size O1 O3 oc1 oc2 hs') ∧ Hid (Below w5.heap.size w5 ws)) (fun vj _ => hs'.length - (RowKit.intOf vj).toNat)
          case atStart => exact ⟨0, Nat.zero_le _, rfl, HHi, HBi⟩
          case round =>
            clear HHi HBi
            obtain ⟨j, hj, rfl, HHs, HBs⟩ := hrel
            rename World => ws
            have hl32 := HHs.out.lens.2
            by_cases hjl : j < hs'.length
            rotate_left
            · have hjI : ¬ (j : Int) < (hs'.length : Int) := by omega
              go_wp2_with fail
              go_roundw
              case rel => exact ⟨i + 1, hs', O1, O3, oc1, oc2, by omega, by go_num, rfl, rfl, RDi, HHs, HBs⟩
              case measure => simp [RowKit.intOf] <;> omega
            have hjI : (j : Int) < (hs'.length : Int) := by omega
            have AC := hide (AtA T w5.heap.size (hs'.map sk) (j : Int) ws HHs.out.tab)
            have hrd := RDi.out _ (List.getElem_mem hjl)
            have HRX := hide hrd
            clear hrd
            cases hgj : hs'[j].gone with
            | true =>
              have hask := gone_ask hjl hgj
              rw [hask] at AC
              have HG := hide hgj
              clear hask hgj
              go_wp2_with fail
              refine AC.out.mono ?_
              rintro e wt ⟨A9, c9, rfl, _, hbt⟩
              obtain ⟨hbk, hbx⟩ := box2 wt 24 (.string ⟨#[]⟩) (.slice none 0 0) (.string (atK (hs'.map sk) (j : Int))) (.slice A9 (atL (hs'.map sk) (j : Int)).length c9)
              have bz := Blk.new wt 24 #[.string ⟨#[]⟩, .slice none 0 0]
              obtain ⟨Wa, hWa⟩ : ∃ x, wt.alloc (.cells #[.string ⟨#[]⟩, .slice none 0 0] 24) = x := ⟨_, rfl⟩
              rw [hWa] at hbk hbx bz
              have z0 : Wa.cell? ⟨wt.heap.size, 0, none⟩ = some (.string ⟨#[]⟩) := bz.cell 0
              have z1 : Wa.cell? ⟨wt.heap.size, 1, none⟩ = some (.slice none 0 0) := bz.cell 1
              have f0 := bz.frozen 0
              have f1 := bz.frozen 1
              obtain ⟨wu, hwu⟩ : ∃ x, (Wa.setCell ⟨wt.heap.size, 0, none⟩ (.string (atK (hs'.map sk) (j : Int)))).setCell ⟨wt.heap.size, 1, none⟩ (.slice A9 (atL (hs'.map sk) (j : Int)).length c9) = x := ⟨_, rfl⟩
              rw [hwu] at hbk hbx
              have hbu := hbt.trans (hbx.mono hbt.size)
              have HHu := hide (HHs.out.below hbu)
              have HBu := hide (HBs.out.trans (hbu.mono HBs.out.size))
              obtain ⟨g, g2, rfl, rfl, hg, hg2, _, _, _, hcs⟩ := HHu.out.at_
              obtain ⟨_, _, cgo⟩ := hcs j hjl
              rw [HG.out] at cgo
              generalize atK (hs'.map sk) (j : Int) = xk at *
              generalize atL (hs'.map sk) (j : Int) = xl at *
              have NE : Nonempty (BelowOf wu) := ⟨⟨wu, Below.refl _ _⟩⟩
              have u0 : ∀ p : BelowOf wu, p.world.cell? ⟨g2, j, none⟩ = some (.bool true) := fun p => p.cell hg2 cgo
              clear hbk hbx bz hbt hbu hcs cgo AC
              go_wp2_with fail
              refine wp_region_quiet_below (by kernel_rfl) (by kernel_rfl) ?_
              repeat (go_big_quiet_step (fail))
              refine wpQuiet_nil ?_
              rintro Wq ⟨⟨_, hq⟩, rfl⟩
              have HHq := hide (HHu.out.below hq)
              have HBq := hide (HBu.out.trans (hq.mono HBu.out.size))
              clear hq u0 NE z0 z1 f0 f1
              go_wp2_with fail
              go_roundw
              case rel => exact ⟨j + 1, by omega, by go_num, HHq, HBq⟩
              case measure => simp [RowKit.intOf] <;> omega
            | false =>
              obtain ⟨hask, hatk, hatl⟩ := at_yes_sk hjl hgj
              rw [hask, hatk, hatl] at AC
              have HG := hide hgj
              obtain ⟨hx, hhx⟩ : ∃ x, hs'[j] = x := ⟨_, rfl⟩
              rw [hhx] at AC HG HRX
              obtain ⟨xk, xA, xcap, xl, xg⟩ := hx
              simp only at AC
              have HG : Hid (xg = false) := HG
              have HRX : Hid (NRow w5 xA xl ∧ xl.length ≤ 100) := HRX
              clear hask hatk hatl hgj
              go_wp2_with fail
              refine AC.out.mono ?_
              rintro e wt ⟨A9, c9, rfl, hA9, hbt⟩
              obtain ⟨hbk, hbx⟩ := box2 wt 24 (.string ⟨#[]⟩) (.slice none 0 0) (.string xk) (.slice A9 xl.length c9)
              have bz := Blk.new wt 24 #[.string ⟨#[]⟩, .slice none 0 0]
              obtain ⟨Wa, hWa⟩ : ∃ x, wt.alloc (.cells #[.string ⟨#[]⟩, .slice none 0 0] 24) = x := ⟨_, rfl⟩
              rw [hWa] at hbk hbx bz
              have z0 : Wa.cell? ⟨wt.heap.size, 0, none⟩ = some (.string ⟨#[]⟩) := bz.cell 0
              have z1 : Wa.cell? ⟨wt.heap.size, 1, none⟩ = some (.slice none 0 0) := bz.cell 1
              have f0 := bz.frozen 0
              have f1 := bz.frozen 1
              obtain ⟨wu, hwu⟩ : ∃ x, (Wa.setCell ⟨wt.heap.size, 0, none⟩ (.string xk)).setCell ⟨wt.heap.size, 1, none⟩ (.slice A9 xl.length c9) = x := ⟨_, rfl⟩
              rw [hwu] at hbk hbx
              have hN9 : NRow wt A9 xl := fun h0 => by
                obtain ⟨g9, rfl, _, hb9⟩ := hA9 h0
                exact blk_nrow hb9 h0
              have hbu := hbt.trans (hbx.mono hbt.size)
              have HHu := hide (HHs.out.below hbu)
              have HBu := hide (HBs.out.trans (hbu.mono HBs.out.size))
              obtain ⟨g, g2, rfl, rfl, hg, hg2, _, _, _, hcs⟩ := HHu.out.at_
              obtain ⟨cke, cro, cgo⟩ := hcs j hjl
              rw [hhx] at cke cro cgo
              have cgo : wu.cell? ⟨g2, j, none⟩ = some (.bool false) := by rw [← HG.out]; exact cgo
              have NE : Nonempty (BelowOf wu) := ⟨⟨wu, Below.refl _ _⟩⟩
              have u0 : ∀ p : BelowOf wu, p.world.cell? ⟨g2, j, none⟩ = some (.bool false) := fun p => p.cell hg2 cgo
              have u1 : ∀ p : BelowOf wu, p.world.cell? ⟨g, j * 2, none⟩ = some (.string xk) := fun p => p.cell hg cke
              have u2 : ∀ p : BelowOf wu, p.world.cell? ⟨g, j * 2 + 1, none⟩ = some (.slice xA xl.length xcap) := fun p => p.cell hg cro
              have u3 : ∀ p : BelowOf wu, p.world.cell? ⟨wt.heap.size, 0, none⟩ = some (.string xk) := fun p => p.cell hbk.lt (hbk.cell 0)
              have u4 : ∀ p : BelowOf wu, p.world.cell? ⟨wt.heap.size, 1, none⟩ = some (.slice A9 xl.length c9) := fun p => p.cell hbk.lt (hbk.cell 1)
              have SM : Hid (∀ p : BelowOf wu, Calls Tryd.prog 15 #[.agg #[.string xk, .slice A9 xl.length c9], .agg #[.string xk, .slice xA xl.length xcap]] p.world fun e w' => e = .returned (.bool true) ∧ Below p.world.heap.size p.world w') := hide (fun p => (Same_b xk xk A9 xA c9 xcap xl xl p.world ((hN9.below hbx).below p.below) (HRX.out.1.below (HBu.out.trans (p.below.mono HBu.out.size))) (by have := HRX.out.2; omega) (by have := HRX.out.2; omega)).mono fun e w' h => by simpa using h)
              clear hbk hbx bz hbt hbu hcs cke cro cgo hhx hA9 hN9 AC
              go_wp2_with fail
              refine wp_region_quiet_below (by kernel_rfl) (by kernel_rfl) ?_
              repeat (go_big_quiet_step (first
                | (go_at_call 15; exact calls_below (SM.out _))))
              refine wpQuiet_nil ?_
              rintro Wq ⟨⟨_, hq⟩, rfl⟩
              have HHq := hide (HHu.out.below hq)
              have HBq := hide (HBu.out.trans (hq.mono HBu.out.size))
              clear hq u0 u1 u2 u3 u4 NE SM z0 z1 f0 f1
              go_wp2_with fail
              go_roundw
              case rel => exact ⟨j + 1, by omega, by go_num, HHq, HBq⟩
              case measure => simp [RowKit.intOf] <;> omega
        case stepy =>
          intro o ho
          simp only [List.mem_cons, List.not_mem_nil, or_false] at ho
          rcases ho with rfl | rfl | rfl | rfl | rfl | rfl | rfl | rfl | rfl
          · intro D a w1 hD hj hsm hr
            have e5 : a.tmps.getD 5 undef = .pointer (some ⟨T, 0, none⟩) := hsm 5 (by decide)
            rw [Array.getD_eq_getD_getElem?] at e5
            unfold Oper.wp
            simp only [execOp, Act.eval, Array.getD_eq_getD_getElem?, e5]
            go_simp
            exact ⟨_, rfl, rfl, Jc D (fun t => D t ∨ 98 = t) w1 (by simp) hj⟩
          · intro D a w1 hD hj hsm hr
            have e13 : a.tmps.getD 13 undef = .int .i64 (k : Int) := hsm 13 (by decide)
            rw [Array.getD_eq_getD_getElem?] at e13
            unfold Oper.wp
            simp only [execOp, Act.eval, Array.getD_eq_getD_getElem?, e13]
            go_simp
            exact ⟨_, rfl, rfl, Jc D (fun t => D t ∨ 99 = t) w1 (by simp) hj⟩
          · intro D a w1 hD hj hsm hr
            have e98 : a.tmps.getD 98 undef = .pointer (some ⟨T, 0, none⟩) := hr 98 (by decide) (by apply Array.mem_toList_iff.1; repeat (first | exact List.Mem.head _ | apply List.Mem.tail))
            have e99 : a.tmps.getD 99 undef = .int .i64 (k : Int) := hr 99 (by decide) (by apply Array.mem_toList_iff.1; repeat (first | exact List.Mem.head _ | apply List.Mem.tail))
            rw [Array.getD_eq_getD_getElem?] at e98
            rw [Array.getD_eq_getD_getElem?] at e99
            unfold Oper.wp
            simp only [execOp, Act.eval, Array.getD_eq_getD_getElem?, e98, e99]
            go_simp
            refine (FreeA T w5.heap.size (hs.map sk) (k : Int) w1 (hj.2.1 (hD 100 rfl))).mono ?_
            rintro e w2 ⟨rfl, hp, hb, hk, _⟩
            rw [free_eq hkl] at hp
            exact ⟨_, rfl, by rw [HASK.out]; rfl, fun _ => hp, fun hn => absurd (.inr rfl) hn, hj.2.2.1.trans hk, hj.2.2.2.trans hb⟩
          · intro D a w1 hD hj hsm hr
            have e100 : a.tmps.getD 100 undef = .int .i64 0 := hr 100 (by decide) (by apply Array.mem_toList_iff.1; repeat (first | exact List.Mem.head _ | apply List.Mem.tail))
            rw [Array.getD_eq_getD_getElem?] at e100
            unfold Oper.wp
            simp only [execOp, Act.eval, Array.getD_eq_getD_getElem?, e100]
            go_simp
            exact ⟨_, rfl, rfl, Jc D (fun t => D t ∨ 101 = t) w1 (by simp) hj⟩
          · intro D a w1 hD hj hsm hr
            have e8 : a.tmps.getD 8 undef = .slice (some ⟨g2, 0, none⟩) hs.length oc2 := hsm 8 (by decide)
            rw [Array.getD_eq_getD_getElem?] at e8
            unfold Oper.wp
            simp only [execOp, Act.eval, Array.getD_eq_getD_getElem?, e8]
            go_simp
            exact ⟨_, rfl, rfl, Jc D (fun t => D t ∨ 102 = t) w1 (by simp) hj⟩
          · intro D a w1 hD hj hsm hr
            have e13 : a.tmps.getD 13 undef = .int .i64 (k : Int) := hsm 13 (by decide)
            rw [Array.getD_eq_getD_getElem?] at e13
            unfold Oper.wp
            simp only [execOp, Act.eval, Array.getD_eq_getD_getElem?, e13]
            go_simp
            exact ⟨_, rfl, rfl, Jc D (fun t => D t ∨ 103 = t) w1 (by simp) hj⟩
          · intro D a w1 hD hj hsm hr
            have e102 : a.tmps.getD 102 undef = .slice (some ⟨g2, 0, none⟩) hs.length oc2 := hr 102 (by decide) (by apply Array.mem_toList_iff.1; repeat (first | exact List.Mem.head _ | apply List.Mem.tail))
            have e103 : a.tmps.getD 103 undef = .int .i64 (k : Int) := hr 103 (by decide) (by apply Array.mem_toList_iff.1; repeat (first | exact List.Mem.head _ | apply List.Mem.tail))
            have hkI3 : (k : Int) < (hs.length : Int) := by omega
            rw [Array.getD_eq_getD_getElem?] at e102
            rw [Array.getD_eq_getD_getElem?] at e103
            unfold Oper.wp
            simp only [execOp, Act.eval, Array.getD_eq_getD_getElem?, e102, e103]
            go_simp
            exact ⟨_, rfl, rfl, Jc D (fun t => D t ∨ 104 = t) w1 (by simp) hj⟩
          · intro D a w1 hD hj hsm hr
            have e104 : a.tmps.getD 104 undef = .pointer (some ⟨g2, k, none⟩) := hr 104 (by decide) (by apply Array.mem_toList_iff.1; repeat (first | exact List.Mem.head _ | apply List.Mem.tail))
            have cc0 : w1.cell? ⟨g2, k, none⟩ = some (.bool false) := by
              obtain ⟨g9, hg9, _, _, _, _, _, hc9⟩ := own_cell (KeepsBut.own hj.2.2.1 HHg.out.gon (by decide)) (by omega)
              have : g9 = g2 := by injection hg9 with h; injection h with h; exact h.symm
              subst this
              rw [hc9 k _ (gnC_at hs k hkl), HGX.out]
            rw [Array.getD_eq_getD_getElem?] at e104
            unfold Oper.wp
            simp only [execOp, Act.eval, Array.getD_eq_getD_getElem?, e104]
            go_simp
            exact ⟨_, rfl, rfl, Jc D (fun t => D t ∨ 105 = t) w1 (by simp) hj⟩
          · intro D a w1 hD hj hsm hr
            have e101 : a.tmps.getD 101 undef = .bool true := hr 101 (by decide) (by apply Array.mem_toList_iff.1; repeat (first | exact List.Mem.head _ | apply List.Mem.tail))
            have e105 : a.tmps.getD 105 undef = .bool false := hr 105 (by decide) (by apply Array.mem_toList_iff.1; repeat (first | exact List.Mem.head _ | apply List.Mem.tail))
            rw [Array.getD_eq_getD_getElem?] at e101
            rw [Array.getD_eq_getD_getElem?] at e105
            unfold Oper.wp
            simp only [execOp, Act.eval, Array.getD_eq_getD_getElem?, e101, e105]
            go_simp
            exact ⟨_, rfl, rfl, Jc D (fun t => D t ∨ 106 = t) w1 (by simp) hj⟩
end Go.Proofs.YtgiibknfkphkgaaDoor.GroupHandlesW
