/- The walk of the statement SignPuts. -/
import Derived.Test.YtdojmjbknkbpoaaDoorRows
import Derived.Test.YtdojmjbknkbpoaaDoorSignRow
import Derived.Test.YtdojmjbknkbpoaaDoorSignPq
import Derived.Deep.CutRange
namespace Go.Proofs.YtdojmjbknkbpoaaDoor.SignPutsW
open Go.Joins Go.ChangeShapes Go.WideShapes Go.RowKit Go.Deep Go.Proofs.YtdojmjbknkbpoaaDoor
set_option linter.unusedVariables false
set_option linter.unusedSimpArgs false
theorem turn_at {W : World} {a : Option Addr} {len cap : Nat} {zs : List Int} (h : IsRow .u8 W a len cap zs) {i : Nat} (hi : i < len) : ∃ x z, a = some x ∧ x.block < W.heap.size ∧ 0 ≤ z ∧ z ≤ 255 ∧ W.cell? (x.add i) = some (.int .u8 z) := by
  rcases h with ⟨_, h0, _, _⟩ | ⟨x, rfl, hl, hm, hz, hc, hw⟩
  · omega
  · have hcell := hc i (by omega)
    obtain ⟨zz, hzz⟩ : ∃ zz, zs.getD i 0 = zz := ⟨_, rfl⟩
    rw [hzz] at hcell
    have hwf := hw zz (by
      rw [← hzz]
      have : i < zs.length := by omega
      have e : zs.getD i 0 = zs[i] := by simp [List.getD, this]
      rw [e]; exact List.getElem_mem this)
    simp [Lit.wf] at hwf
    have h1 : IntKind.u8.min = 0 := rfl
    have h2 : IntKind.u8.max = 255 := rfl
    refine ⟨x, _, rfl, ?_, by omega, by omega, hcell⟩
    have := block_lt_of_cell hcell
    rwa [block_of_add] at this
theorem own_cap {w : World} {B size n c : Nat} {e : TypeId} {a : Option Addr} {xs : List Value} (h : w.ownsRow B e size (.slice a n c) n xs) (hn : 0 < n) : n ≤ c ∧ c ≤ maxLen ∧ ∀ x, a = some x → x.block < w.heap.size := by
  rcases h.2 with ⟨_, h0⟩ | ⟨g, cap, cur, hv, hge, hh, hnc, hm, _⟩
  · omega
  · injection hv with h1 _ h3
    subst h1 h3
    exact ⟨hnc, hm, fun x hx => by cases hx; exact (Array.getElem?_eq_some_iff.1 hh).1⟩
set_option maxRecDepth 100000 in
set_option maxHeartbeats 16000000 in
theorem walk {H : Type} {enc : TypeId × Value → H} {base : Nat} (W : World) (hp : Pow W) (v0 : Value) (d0 : DataW H) (p0 : List MemPlace) (o0 : Value.okWide Tryd.prog W .any base 22 v0) (r0 : DataW.Trod enc Tryd.prog W 0 (fun _ => true) true 22 v0 d0 p0) (a1 : Option Addr) (len1 cap1 : Nat) (z1 : List Int) (wt : IsRow .u8 W a1 len1 cap1 z1) :
    Calls Tryd.prog 7 #[v0, .slice a1 len1 cap1] W fun e w' => e = .returned (.bool true) ∧ Below W.heap.size W w' := by
  obtain ⟨A, l, ca, rfl, hr, _, _⟩ := own_rowC o0 r0
  have AW := hide (awake_a W hp)
  have TU := hide (fun (i : Nat) (hi : i < len1) => turn_at wt hi)
  have hl63 : len1 ≤ 9223372036854775807 := by
    rcases wt with ⟨_, h0, _, _⟩ | ⟨x, _, hl, hm, _⟩
    · omega
    · unfold maxLen at hm; omega
  clear o0 r0 hp wt
  by_cases hl : l.length ≤ 60
  rotate_left
  · have gI : (60 : Int) < (l.length : Int) := by omega
    clear hr
    go_enter Tryd.func7, Tryd.ntmps7
    go_wp2_with fail
    refine AW.out.mono ?_
    rintro e w1 ⟨rfl, hb1⟩
    have HB1 := hide hb1
    clear hb1
    go_wp2_with fail
    go_ret
    exact ⟨rfl, HB1.out⟩
  have gl : ¬ (60 : Int) < (l.length : Int) := by omega
  have MY := hide fun (w' : World) (h : Below W.heap.size W w') => May_a A ca l w' (hr.below h) (by omega)
  have HR := hide hr
  clear hr
  rcases hm : mayL l with _ | _
  · rw [hm] at MY
    go_enter Tryd.func7, Tryd.ntmps7
    go_wp2_with fail
    refine AW.out.mono ?_
    rintro e w1 ⟨rfl, hb1⟩
    have HB1 := hide hb1
    clear hb1
    go_wp2_with fail
    refine (MY.out w1 HB1.out).mono ?_
    rintro e w2 ⟨rfl, hb2⟩
    have HB2 := hide (HB1.out.trans (hb2.mono HB1.out.size))
    clear hb2
    go_wp2_with fail
    go_ret
    exact ⟨rfl, HB2.out⟩
  rw [hm] at MY
  have HM := hide hm
  obtain ⟨i0, hi0, hz0, hz1, hz2⟩ := info_parts ch_info
  have HI := hide (And.intro hi0 (And.intro hz0 (And.intro hz1 hz2)))
  clear hi0 hz0 hz1 hz2 hm
  go_enter Tryd.func7, Tryd.ntmps7
  go_wp2_with fail
  refine AW.out.mono ?_
  rintro e w1 ⟨rfl, hb1⟩
  have HB1 := hide hb1
  clear hb1
  go_wp2_with fail
  refine (MY.out w1 HB1.out).mono ?_
  rintro e w2 ⟨rfl, hb2⟩
  have HB2 := hide (HB1.out.trans (hb2.mono HB1.out.size))
  clear hb2
  obtain ⟨vL, w3, hrun, hoL, hb3⟩ := run_append_empty (P := Tryd.prog) (w2.alloc (.cells #[] 40)) W.heap.size 22 22 40 i0 chZ 5 40 Tryd.underlying22 HI.out.1 HI.out.2.1 HI.out.2.2.1 HI.out.2.2.2 rfl w2.heap.size (Blk.new w2 40 #[]) HB2.out.size (by have := HB2.out.size; simp; omega) w2.heap.size A l.length ca (chs l) ((crow_reads (HR.out.below HB2.out)).alloc (Nat.le_refl _) _) (chs_one' l) (by omega) (by decide)
  have RUN := hide hrun
  have OL := hide hoL
  have HB3 := hide ((HB2.out.alloc HB2.out.size _).trans (hb3.mono (by have := HB2.out.size; simp; omega)))
  clear hrun hoL hb3
  go_wp2_with (at_builtin; refine Lib.wpList_append_run _ rfl _ _ _ _ rfl _ _ rfl rfl _ _ RUN.out ?_)
  go_loopw [5, 6, 7] (fun vl vr vi wr => ∃ (i : Nat) (R L : List Ch) (ra : Option Addr) (rc : Nat), i ≤ l.length ∧ vi = .int .i64 i ∧ Hid (L.length = l.length - i ∧ R.length = i) ∧ Hid (PutI l R L) ∧ vr = .slice ra R.length rc ∧ Hid (CRow wr ra R) ∧ Hid (wr.ownsRow W.heap.size 40 5 vl L.length (chs L)) ∧ Hid (Below W.heap.size W wr)) (fun _ _ vi _ => l.length - (intOf vi).toNat)
  case atStart => exact ⟨0, [], l, none, 0, Nat.zero_le _, rfl, hide ⟨by omega, rfl⟩, hide (putI_start l), rfl, hide ⟨Nat.zero_le _, fun h => absurd h (Nat.lt_irrefl 0)⟩, OL, HB3⟩
  case round =>
    obtain ⟨i, R, L, ra, rc, hi, rfl, HL, HI2, rfl, HCR, HOL, HB⟩ := hrel
    by_cases hlt : i < l.length
    · have ltI : (i : Int) < (l.length : Int) := by omega
      obtain ⟨la, lc, rfl, hLR⟩ := own_crow HOL.out (fun j hj => mayC_ok (((mayL_iff l).1 HM.out).1 _ (HI2.out.perm.mem_iff.1 (List.mem_append_right _ (List.getElem_mem hj))))) (by have := HL.out; unfold maxLen; omega)
      obtain ⟨n, hn⟩ : ∃ n, L.length = n := ⟨_, rfl⟩
      have hn1 : 1 ≤ n := by have := HL.out; omega
      have hn2 : n ≤ 60 := by have := HL.out; omega
      obtain ⟨hnc, hcm, hab⟩ := own_cap HOL.out (by omega)
      rw [hn] at HOL hnc
      have HN := hide hn
      have HLR := hide hLR
      have hcm2 : lc ≤ 9223372036854775807 := by unfold maxLen at hcm; omega
      rw [hn]
      clear hn hLR hcm hab
      go_upto_if 38 with (fail)
      go_cut [8] from 29 to 97 (fun x8 wx => ∃ k : Nat, k < n ∧ x8 = .int .i64 k ∧ wr = wx)
      case first =>
        by_cases hit : i < len1
        · obtain ⟨x, z, rfl, hxb, hz0, hz1, hcz⟩ := TU.out i hit
          have cz : wr.cell? (x.add i) = some (.int .u8 z) := (HB.out.cell (by rw [block_of_add]; exact hxb)).trans hcz
          have s1 : (i : Int) < (len1 : Int) := by omega
          clear hcz
          go_wp2_with fail
          go_meet
          exact ⟨(z % (n : Int)).toNat, by have := Int.emod_lt_of_pos z (show (0 : Int) < (n : Int) by omega); have := Int.emod_nonneg z (show (n : Int) ≠ 0 by omega); omega, congrArg (Value.int .i64) (by have := Int.emod_nonneg z (show (n : Int) ≠ 0 by omega); omega), rfl⟩
        · have s1 : ¬ (i : Int) < (len1 : Int) := by omega
          go_wp2_with fail
          go_meet
          exact ⟨0, by omega, rfl, rfl⟩
      case rest =>
      obtain ⟨k, hk, rfl, rfl⟩ := hcut
      have hkL : k < L.length := by have := HN.out; omega
      obtain ⟨lp, rfl, ha, hok, h0, h1, h2, h3, h4⟩ := HLR.out.at_ hkL
      have hkI : (k : Int) < (n : Int) := by omega
      have hRl : R.length ≤ 60 := by have := HL.out; omega
      obtain ⟨q1, q2, q3⟩ := put_some HM.out HI2.out hkL
      have ST := hide (putI_step HM.out HI2.out hkL)
      have hR2l : (putR R L[k]).length ≤ 61 := by rw [put_len]; omega
      have HRL := hide (put_len R L[k])
      have hR2ok : ∀ j (hj : j < (putR R L[k]).length), ((putR R L[k])[j]).ok := fun j hj => mayC_ok (((mayL_iff _).1 ST.out.may).1 _ (List.getElem_mem hj))
      have NQ := fun (w : World) => neqCh L[k] L[k] w
      simp only [decide_true, Bool.not_true] at NQ
      generalize L[k] = x at *
      generalize putR R x = R2 at *
      have PUT1 : Hid (∀ w', CRow w' ra R → Calls Tryd.prog 19 #[.slice ra R.length rc, x.val] w' fun e w'' => (∃ P c, e = .returned (.tuple #[.slice P R2.length c, .int .i64 0]) ∧ CRow w'' P R2) ∧ Below w'.heap.size w' w'') := hide fun w' h => (Put_a ra rc R x w' h (by omega)).mono fun e w'' hh => ⟨by
        have h1 := hh.1
        unfold PutR at h1
        rw [q1] at h1
        obtain ⟨vv, he, ho⟩ := h1
        obtain ⟨P, c, rfl, hrr⟩ := own_crow ho hR2ok (by unfold maxLen; omega)
        exact ⟨P, c, he, hrr⟩, hh.2⟩
      have PUT2 : Hid (∀ P c w', CRow w' P R2 → Calls Tryd.prog 19 #[.slice P R2.length c, x.val] w' fun e w'' => e = .returned (.tuple #[.slice none 0 0, .int .i64 2]) ∧ Below w'.heap.size w' w'') := hide fun P c w' h => (Put_a P c R2 x w' h (by omega)).mono fun e w'' hh => ⟨by
        have h1 := hh.1
        unfold PutR at h1
        rw [q2] at h1
        exact h1, hh.2⟩
      have AT1 : Hid (∀ P c w', CRow w' P R2 → Calls Tryd.prog 20 #[.slice P R2.length c, .int .i64 x.r, .int .i64 x.c] w' fun e w'' => e = .returned (.tuple #[x.val, .bool true]) ∧ Below w'.heap.size w' w'') := hide fun P c w' h => by
        have := At_a P c R2 x.r x.c w' h (by omega)
        rwa [q3] at this
      clear q1 q2 q3 hR2ok hok
      obtain ⟨r, q, f, s, v⟩ := x
      unfold Ch.val at PUT1 PUT2 AT1
      simp only at h0 h1 h2 h3 h4 NQ PUT1 PUT2 AT1
      have bx := Blk.new wr 40 #[.int .i64 r, .int .i64 q, .int .i64 f, .int .i64 s, .int .i64 v]
      have hb4 := (Below.refl wr.heap.size wr).alloc (Nat.le_refl _) (.cells #[.int .i64 r, .int .i64 q, .int .i64 f, .int .i64 s, .int .i64 v] 40)
      have hs4 : wr.heap.size < (wr.alloc (.cells #[.int .i64 r, .int .i64 q, .int .i64 f, .int .i64 s, .int .i64 v] 40)).heap.size := by simp
      have BX := hide bx
      have HB4 := hide (HB.out.trans (hb4.mono HB.out.size))
      have HCR4 := hide (HCR.out.below hb4)
      have HOL4 := hide (own_belowR HOL.out hb4)
      have HLR4 := hide (HLR.out.below hb4)
      clear bx hb4
      go_wp2_with fail
      generalize wr.alloc (.cells #[.int .i64 r, .int .i64 q, .int .i64 f, .int .i64 s, .int .i64 v] 40) = w4 at *
      have b1 : (k : Int) ≤ (lc : Int) := by omega
      have hw1 : IntKind.i64.wrap ((k : Int) + 1) = (k : Int) + 1 := by rw [IntKind.wrap_i64]; omega
      have hw2 : (0 : Int) ≤ (k : Int) + 1 := by omega
      have hw3 : (k : Int) + 1 ≤ (n : Int) := by omega
      have hw4 : ((k : Int) + 1).toNat = k + 1 := by omega
      have RDL : Hid (∀ w1, Below w4.heap.size w4 w1 → Reads w1 w1.heap.size 5 (some lp) n (chs L)) := hide fun w1 hb => by
        have := crow_reads (HLR4.out.below hb)
        rwa [HN.out] at this
      have RDT : Hid (∀ w1, Below w4.heap.size w4 w1 → Reads w1 w1.heap.size 5 (some lp) k (chs (L.take k))) := hide fun w1 hb => by
        have := crow_reads (crow_take (n := k) (HLR4.out.below hb))
        rwa [show (L.take k).length = k by rw [List.length_take, HN.out]; omega] at this
      have RDD : Hid (∀ w1, Below w4.heap.size w4 w1 → Reads w1 w1.heap.size 5 (if lc = k + 1 then some lp else some (lp.add ((k + 1) * 5))) (n - (k + 1)) (chs (L.drop (k + 1)))) := hide fun w1 hb => by
        have := (RDL.out w1 hb).cut (k := k + 1) (cap := lc) (by omega) hnc
        rw [chs_drop] at this
        exact this
      let R0 : Nat → Value → World → Prop := fun t u w1 => match t with
        | 51 => ∃ g, u = .slice (some ⟨g, 0, none⟩) 0 0 ∧ w4.heap.size ≤ g ∧ Blk w1 g 40 #[]
        | 52 => u = .slice (some lp) n lc
        | 53 => u = .int .i64 (k : Int)
        | 54 => u = .slice (some lp) k lc
        | 55 => w1.ownsRow w4.heap.size 40 5 u k (chs (L.take k))
        | 56 => u = .slice (some lp) n lc
        | 57 => u = .int .i64 (k : Int)
        | 58 => u = .int .i64 ((k : Int) + 1)
        | 59 => ∃ a' c', u = .slice a' (n - (k + 1)) c' ∧ Reads w1 w1.heap.size 5 a' (n - (k + 1)) (chs (L.drop (k + 1)))
        | _ => True
      refine wp_region_relT 9 R0 (by kernel_rfl) (by kernel_rfl) (by kernel_rfl) (by kernel_rfl) ?mono ?step ?fin
      case mono =>
        intro t u w1 w2 h hb
        match t with
        | 51 =>
          obtain ⟨g, e1, e2, e3⟩ := h
          exact ⟨g, e1, e2, e3.below hb e3.lt⟩
        | 55 => exact own_belowR h hb
        | 59 =>
          obtain ⟨a', c', e1, e2⟩ := h
          exact ⟨a', c', e1, (e2.below hb).more hb.size⟩
        | 52 | 53 | 54 | 56 | 57 | 58 => exact h
        | 0 | 1 | 2 | 3 | 4 | 5 | 6 | 7 | 8 | 9 | 10 | 11 | 12 | 13 | 14 | 15 | 16 | 17 | 18 | 19 | 20 | 21 | 22 | 23 | 24 | 25 | 26 | 27 | 28 | 29 | 30 | 31 | 32 | 33 | 34 | 35 | 36 | 37 | 38 | 39 | 40 | 41 | 42 | 43 | 44 | 45 | 46 | 47 | 48 | 49 | 50 => trivial
        | _ + 60 => trivial
      case fin =>
        intro ff w5 hb hr
        have f55 : w5.ownsRow w4.heap.size 40 5 (ff 55) k (chs (L.take k)) := hr 55 (by decide)
        have f59 : ∃ a' c', ff 59 = .slice a' (n - (k + 1)) c' ∧ Reads w5 w5.heap.size 5 a' (n - (k + 1)) (chs (L.drop (k + 1))) := hr 59 (by decide)
        obtain ⟨a', c', f59, hrd⟩ := f59
        obtain ⟨v55, e55⟩ : ∃ v55, ff 55 = v55 := ⟨_, rfl⟩
        rw [e55] at f55
        have O5 := hide f55
        have RD := hide hrd
        have HO := hide (chs_one' (L.drop (k + 1)))
        have HB5 := hide hb
        have hs5 := hb.size
        simp only [putAll, slotsOf, List.take_succ_cons, List.take_zero, List.drop_succ_cons, List.drop_zero, List.filterMap_cons, List.filterMap_nil, List.foldl_cons, List.foldl_nil, Act.put, e55, f59]
        simp only [List.setIfInBounds_toArray, List.set_cons_succ, List.set_cons_zero]
        clear hb hr f55 f59 e55 hrd RDL RDT RDD R0 h0 h1 h2 h3 h4 hw1 hw2 hw3 hw4
        go_wp2_with (at_builtin; refine wpList_append_any _ rfl _ _ 22 rfl w4.heap.size 40 i0 chZ 5 40 Tryd.underlying22 HI.out.1 HI.out.2.1 HI.out.2.2.1 HI.out.2.2.2 rfl (by decide) v55 k (chs (L.take k)) rfl O5.out w5.heap.size a' (n - (k + 1)) c' _ rfl RD.out HO.out (by unfold maxLen; omega) (by omega) hs5 ?_)
        intro vN w6 hown' hgrow _
        have hb6 := HB5.out.grown hgrow hs5 (fun g hg => (own_ltS O5.out hg).1)
        have OwN := hide (own_base hown' (show W.heap.size ≤ w4.heap.size from HB4.out.size))
        have HB6 := hide (HB4.out.trans (hb6.mono HB4.out.size))
        have HCR6 := hide (HCR4.out.below hb6)
        have bx6 := BX.out.below hb6 hs4
        have hs6 : wr.heap.size < w6.heap.size := Nat.lt_of_lt_of_le hs4 hb6.size
        have BX6 := hide bx6
        have EL : Hid (k + (n - (k + 1)) = (L.take k ++ L.drop (k + 1)).length) := hide (by rw [List.length_append, List.length_take, List.length_drop, HN.out]; omega)
        clear hown' hgrow hb6 bx6 HB5 RD HO O5 HLR HLR4 HOL HOL4 HCR HCR4 BX
        have d0 := BX6.out.cell 0
        have d1 := BX6.out.cell 1
        have d2 := BX6.out.cell 2
        have d3 := BX6.out.cell 3
        have d4 := BX6.out.cell 4
        simp only [List.getElem?_toArray, List.getElem?_cons_zero, List.getElem?_cons_succ] at d0 d1 d2 d3 d4
        go_wp2_with fail
        refine (PUT1.out w6 HCR6.out).mono ?_
        rintro e w7 ⟨⟨P, c7, rfl, hc7⟩, hb7⟩
        have HB7 := hide (HB6.out.trans (hb7.mono HB6.out.size))
        have BX7 := hide (BX6.out.below hb7 hs6)
        have hs7 : wr.heap.size < w7.heap.size := Nat.lt_of_lt_of_le hs6 hb7.size
        have Ow7 := hide (own_belowR OwN.out hb7)
        clear d0 d1 d2 d3 d4
        have HC7 := hide hc7
        clear hc7 hb7
        have d0 := BX7.out.cell 0
        have d1 := BX7.out.cell 1
        have d2 := BX7.out.cell 2
        have d3 := BX7.out.cell 3
        have d4 := BX7.out.cell 4
        simp only [List.getElem?_toArray, List.getElem?_cons_zero, List.getElem?_cons_succ] at d0 d1 d2 d3 d4
        go_wp2_with fail
        refine (PUT2.out P c7 w7 HC7.out).mono ?_
        rintro e w8 ⟨rfl, hb8⟩
        have HB8 := hide (HB7.out.trans (hb8.mono HB7.out.size))
        have BX8 := hide (BX7.out.below hb8 hs7)
        have hs8 : wr.heap.size < w8.heap.size := Nat.lt_of_lt_of_le hs7 hb8.size
        have Ow8 := hide (own_belowR Ow7.out hb8)
        clear d0 d1 d2 d3 d4
        have HC8 := hide (HC7.out.below hb8)
        clear hb8
        have d0 := BX8.out.cell 0
        have d1 := BX8.out.cell 1
        have d2 := BX8.out.cell 2
        have d3 := BX8.out.cell 3
        have d4 := BX8.out.cell 4
        simp only [List.getElem?_toArray, List.getElem?_cons_zero, List.getElem?_cons_succ] at d0 d1 d2 d3 d4
        go_wp2_with fail
        refine (AT1.out P c7 w8 HC8.out).mono ?_
        rintro e w9 ⟨rfl, hb9⟩
        have HB9 := hide (HB8.out.trans (hb9.mono HB8.out.size))
        have BX9 := hide (BX8.out.below hb9 hs8)
        have hs9 : wr.heap.size < w9.heap.size := Nat.lt_of_lt_of_le hs8 hb9.size
        have Ow9 := hide (own_belowR Ow8.out hb9)
        clear d0 d1 d2 d3 d4
        have HC9 := hide (HC8.out.below hb9)
        clear hb9
        have d0 := BX9.out.cell 0
        have d1 := BX9.out.cell 1
        have d2 := BX9.out.cell 2
        have d3 := BX9.out.cell 3
        have d4 := BX9.out.cell 4
        simp only [List.getElem?_toArray, List.getElem?_cons_zero, List.getElem?_cons_succ] at d0 d1 d2 d3 d4
        go_wp2_with fail
        go_roundw
        case rel =>
          refine ⟨i + 1, R2, L.take k ++ L.drop (k + 1), P, c7, by omega, by go_num, hide ⟨by rw [← EL.out]; have := HL.out; have := HN.out; omega, by rw [HRL.out]; have := HL.out; omega⟩, ST, rfl, hide (HC9.out.below ((Below.refl _ _).alloc (Nat.le_refl _) _)), hide ?_, hide (HB9.out.alloc HB9.out.size _)⟩
          rw [← EL.out, chs_app]
          exact Ow9.out.alloc _
        case measure => simp [intOf]; omega
      case step =>
        intro o ho
        simp only [List.take_succ_cons, List.take_zero, List.mem_cons, List.not_mem_nil, or_false] at ho
        rcases ho with rfl | rfl | rfl | rfl | rfl | rfl | rfl | rfl | rfl
        · intro a w1 hb hs hr
          unfold Oper.wp
          simp only [execOp, Act.eval, Array.getD_eq_getD_getElem?]
          go_simp
          exact ⟨_, rfl, ⟨w1.heap.size, rfl, hb.size, Blk.new w1 _ _⟩, (Below.refl _ _).alloc (Nat.le_refl _) _⟩
        · intro a w1 hb hs hr
          have e5 : a.tmps.getD 5 undef = .slice (some lp) n lc := hs 5 (by decide)
          rw [Array.getD_eq_getD_getElem?] at e5
          unfold Oper.wp
          simp only [execOp, Act.eval, Array.getD_eq_getD_getElem?, e5]
          go_simp
          exact ⟨_, rfl, rfl, Below.refl _ _⟩
        · intro a w1 hb hs hr
          have e8 : a.tmps.getD 8 undef = .int .i64 (k : Int) := hs 8 (by decide)
          rw [Array.getD_eq_getD_getElem?] at e8
          unfold Oper.wp
          simp only [execOp, Act.eval, Array.getD_eq_getD_getElem?, e8]
          go_simp
          exact ⟨_, rfl, rfl, Below.refl _ _⟩
        · intro a w1 hb hs hr
          have e52 : a.tmps.getD 52 undef = .slice (some lp) n lc := hr 52 (by decide) (by apply Array.mem_toList_iff.1; repeat (first | exact List.Mem.head _ | apply List.Mem.tail))
          have e53 : a.tmps.getD 53 undef = .int .i64 (k : Int) := hr 53 (by decide) (by apply Array.mem_toList_iff.1; repeat (first | exact List.Mem.head _ | apply List.Mem.tail))
          rw [Array.getD_eq_getD_getElem?] at e52
          rw [Array.getD_eq_getD_getElem?] at e53
          unfold Oper.wp
          simp only [execOp, Act.eval, Array.getD_eq_getD_getElem?, e52, e53]
          go_simp
          exact ⟨_, rfl, rfl, Below.refl _ _⟩
        · intro a w1 hb hs hr
          have e51 : ∃ g, a.tmps.getD 51 undef = .slice (some ⟨g, 0, none⟩) 0 0 ∧ w4.heap.size ≤ g ∧ Blk w1 g 40 #[] := hr 51 (by decide) (by apply Array.mem_toList_iff.1; repeat (first | exact List.Mem.head _ | apply List.Mem.tail))
          have e54 : a.tmps.getD 54 undef = .slice (some lp) k lc := hr 54 (by decide) (by apply Array.mem_toList_iff.1; repeat (first | exact List.Mem.head _ | apply List.Mem.tail))
          obtain ⟨g, e51', hg0, hg⟩ := e51
          obtain ⟨v', w', hrun, ho', hbl⟩ := run_append_empty (P := Tryd.prog) w1 w4.heap.size 22 22 40 i0 chZ 5 40 Tryd.underlying22 HI.out.1 HI.out.2.1 HI.out.2.2.1 HI.out.2.2.2 rfl g hg hg0 hb.size w1.heap.size (some lp) k lc (chs (L.take k)) (RDT.out w1 hb) (chs_one' _) (by omega) (by decide)
          exact Lib.wp_append_run w1 (.tmp 51) (.tmp 54) 22 22 rfl _ _ e51' e54 v' w' hrun ⟨v', rfl, fun t ht => by cases ht; exact ho', hbl⟩
        · intro a w1 hb hs hr
          have e5 : a.tmps.getD 5 undef = .slice (some lp) n lc := hs 5 (by decide)
          rw [Array.getD_eq_getD_getElem?] at e5
          unfold Oper.wp
          simp only [execOp, Act.eval, Array.getD_eq_getD_getElem?, e5]
          go_simp
          exact ⟨_, rfl, rfl, Below.refl _ _⟩
        · intro a w1 hb hs hr
          have e8 : a.tmps.getD 8 undef = .int .i64 (k : Int) := hs 8 (by decide)
          rw [Array.getD_eq_getD_getElem?] at e8
          unfold Oper.wp
          simp only [execOp, Act.eval, Array.getD_eq_getD_getElem?, e8]
          go_simp
          exact ⟨_, rfl, rfl, Below.refl _ _⟩
        · intro a w1 hb hs hr
          have e57 : a.tmps.getD 57 undef = .int .i64 (k : Int) := hr 57 (by decide) (by apply Array.mem_toList_iff.1; repeat (first | exact List.Mem.head _ | apply List.Mem.tail))
          rw [Array.getD_eq_getD_getElem?] at e57
          unfold Oper.wp
          simp only [execOp, Act.eval, Array.getD_eq_getD_getElem?, e57]
          go_simp
          exact ⟨_, rfl, rfl, Below.refl _ _⟩
        · intro a w1 hb hs hr
          have e56 : a.tmps.getD 56 undef = .slice (some lp) n lc := hr 56 (by decide) (by apply Array.mem_toList_iff.1; repeat (first | exact List.Mem.head _ | apply List.Mem.tail))
          have e58 : a.tmps.getD 58 undef = .int .i64 ((k : Int) + 1) := hr 58 (by decide) (by apply Array.mem_toList_iff.1; repeat (first | exact List.Mem.head _ | apply List.Mem.tail))
          rw [Array.getD_eq_getD_getElem?] at e56
          rw [Array.getD_eq_getD_getElem?] at e58
          unfold Oper.wp
          simp only [execOp, Act.eval, Array.getD_eq_getD_getElem?, e56, e58]
          go_simp
          exact ⟨_, rfl, ⟨_, _, rfl, RDD.out w1 hb⟩, Below.refl _ _⟩
    · obtain rfl : i = l.length := by omega
      have HLn : Hid (L.length = 0 ∧ R.length = l.length) := hide ⟨by have := HL.out; omega, HL.out.2⟩
      obtain rfl : L = [] := List.eq_nil_of_length_eq_zero HLn.out.1
      have hE : R = l := putI_end HM.out HI2.out
      have S1 := hide (same_b ra A rc ca R l wr HCR.out (HR.out.below HB.out) (by have := HL.out; omega) (by omega))
      rw [decide_eq_true hE] at S1
      have ltI : ¬ (l.length : Int) < (l.length : Int) := by omega
      clear hE
      go_wp2_with fail
      refine S1.out.mono ?_
      rintro e w5 ⟨rfl, hb5⟩
      have HB5 := hide (HB.out.trans (hb5.mono HB.out.size))
      clear hb5
      go_wp2_with fail
      go_ret
      exact ⟨rfl, HB5.out⟩
end Go.Proofs.YtdojmjbknkbpoaaDoor.SignPutsW
