/- Which message rivals leave. -/
import Derived.Test.YtonmojinijpneaaRows
import Derived.Test.YtonmojinijpneaaPoJ
namespace Go.Proofs.Ytonmojinijpneaa
open Go Go.Joins Go.ChangeShapes Go.WideShapes Go.RowKit Go.Deep Go.Lib
set_option linter.unusedVariables false
set_option linter.unusedSimpArgs false
namespace Po
/-- Receives leave a message, if none that waits fits it. -/
def leaveB (l : List Rc) (m : Qu.Msg) : Bool := l.all fun r => r.dn || !fitsB r m
theorem leave_take {l : List Rc} {m : Qu.Msg} {j : Nat} {r : Rc} (h : l[j]? = some r) : leaveB (l.take (j + 1)) m = (leaveB (l.take j) m && (r.dn || !fitsB r m)) := by
  obtain ⟨hl, he⟩ := List.getElem?_eq_some_iff.1 h
  unfold leaveB
  rw [List.take_succ_eq_append_getElem hl, he, List.all_append]
  simp
theorem leave_no {l : List Rc} {m : Qu.Msg} {j : Nat} {r : Rc} (h : l[j]? = some r) (hd : r.dn = false) (hf : fitsB r m = true) : leaveB l m = false := by
  unfold leaveB
  rw [List.all_eq_false]
  exact ⟨r, List.mem_of_getElem? h, by simp [hd, hf]⟩
set_option maxRecDepth 100000 in
set_option maxHeartbeats 16000000 in
theorem leave_c (w : World) (A : Option Addr) (cap n : Nat) (r : List Rc) (h : RRow w A r) (hn : r.length = n) (hl : n ≤ 100000) (mkey : ByteArray) (mfr mto mca mtg mva msz : Int) (mtk : Bool) :
    Calls Try.prog 81 #[.slice A n cap, .agg #[.string mkey, .int .i64 mfr, .int .i64 mto, .int .i64 mca, .int .i64 mtg, .int .i64 mva, .int .i64 msz, .bool mtk]] w fun e w' => e = .returned (.bool (leaveB r ⟨mkey, mfr, mto, mca, mtg, mva, msz, mtk⟩)) ∧ Below w.heap.size w w' := by
  have b1 := (Below.refl w.heap.size w).alloc (Nat.le_refl _) (.cells #[.string mkey, .int .i64 mfr, .int .i64 mto, .int .i64 mca, .int .i64 mtg, .int .i64 mva, .int .i64 msz, .bool mtk] 33)
  have kx := Blk.new w 33 #[.string mkey, .int .i64 mfr, .int .i64 mto, .int .i64 mca, .int .i64 mtg, .int .i64 mva, .int .i64 msz, .bool mtk]
  obtain ⟨w1, hw1⟩ : ∃ z, w.alloc (.cells #[.string mkey, .int .i64 mfr, .int .i64 mto, .int .i64 mca, .int .i64 mtg, .int .i64 mva, .int .i64 msz, .bool mtk] 33) = z := ⟨_, rfl⟩
  obtain ⟨X, hX⟩ : ∃ z, w.heap.size = z := ⟨_, rfl⟩
  rw [hw1] at b1 kx
  rw [hX] at kx
  have HR := hide (h.below b1)
  have HN := hide hn
  have B1 := hide b1
  have KX := hide kx
  have HW1 := hide hw1
  have HX := hide hX
  have WC := hide (fun a b c d e f g h i w' => waits_c a b c d e f g h i w')
  have FC := hide (fun a b c d e f g h i w' => fits_c a b c d e f g h i mkey mfr mto mca mtg mva msz mtk w')
  clear h hn b1 kx hw1 hX
  go_enter Try.func81, Try.ntmps81
  go_upto_region 1 with (fail)
  rw [HW1.out, HX.out]
  clear HW1
  go_wp2_with fail
  go_loopw [6, 9] (fun _ v9 wr => (∃ j : Nat, j ≤ n ∧ v9 = .int .i64 j ∧ Hid (leaveB (r.take j) ⟨mkey, mfr, mto, mca, mtg, mva, msz, mtk⟩ = true)) ∧ Hid (Below w1.heap.size w1 wr)) (fun _ v9 _ => n - (RowKit.intOf v9).toNat)
  case atStart => exact ⟨⟨0, Nat.zero_le _, rfl, hide rfl⟩, hide (Below.refl _ _)⟩
  case round =>
    obtain ⟨⟨j, hj, rfl, HL⟩, HB⟩ := hrel
    rename World => wr
    by_cases hlt : j < n
    rotate_left
    · have hltI : ¬ (j : Int) < (n : Int) := by omega
      have FE : Hid (leaveB r ⟨mkey, mfr, mto, mca, mtg, mva, msz, mtk⟩ = true) := hide (by
        have h := HL.out
        rwa [List.take_of_length_le (by rw [HN.out]; omega)] at h)
      go_wp2_with fail
      go_ret
      exact ⟨by rw [FE.out]; rfl, B1.out.trans (HB.out.mono B1.out.size)⟩
    have hltI : (j : Int) < (n : Int) := by omega
    obtain ⟨⟨ek, er, ec, ep, et, eq, ed, ef, es⟩, hm⟩ : ∃ m, r[j]? = some m := ⟨_, List.getElem?_eq_getElem (by rw [HN.out]; exact hlt)⟩
    obtain ⟨g, rfl, hg, hit⟩ := (HR.out.below HB.out).it j _ hm
    have n0 : wr.cell? ⟨g, j * 9, none⟩ = some (.string ek) := hit 0 _ rfl
    have n1 : wr.cell? ⟨g, j * 9 + 1, none⟩ = some (.int .i64 er) := hit 1 _ rfl
    have n2 : wr.cell? ⟨g, j * 9 + 2, none⟩ = some (.int .i64 ec) := hit 2 _ rfl
    have n3 : wr.cell? ⟨g, j * 9 + 3, none⟩ = some (.int .i64 ep) := hit 3 _ rfl
    have n4 : wr.cell? ⟨g, j * 9 + 4, none⟩ = some (.int .i64 et) := hit 4 _ rfl
    have n5 : wr.cell? ⟨g, j * 9 + 5, none⟩ = some (.int .i64 eq) := hit 5 _ rfl
    have n6 : wr.cell? ⟨g, j * 9 + 6, none⟩ = some (.bool ed) := hit 6 _ rfl
    have n7 : wr.cell? ⟨g, j * 9 + 7, none⟩ = some (.int .i64 ef) := hit 7 _ rfl
    have n8 : wr.cell? ⟨g, j * 9 + 8, none⟩ = some (.int .i64 es) := hit 8 _ rfl
    have HM := hide hm
    have HLT := hide hlt
    have by_ := (Below.refl wr.heap.size wr).alloc (Nat.le_refl _) (.cells #[.string ek, .int .i64 er, .int .i64 ec, .int .i64 ep, .int .i64 et, .int .i64 eq, .bool ed, .int .i64 ef, .int .i64 es] 35)
    have ky := Blk.new wr 35 #[.string ek, .int .i64 er, .int .i64 ec, .int .i64 ep, .int .i64 et, .int .i64 eq, .bool ed, .int .i64 ef, .int .i64 es]
    have kxr := KX.out.below HB.out KX.out.lt
    have kxs := kxr.below by_ kxr.lt
    obtain ⟨ws, hws⟩ : ∃ z, wr.alloc (.cells #[.string ek, .int .i64 er, .int .i64 ec, .int .i64 ep, .int .i64 et, .int .i64 eq, .bool ed, .int .i64 ef, .int .i64 es] 35) = z := ⟨_, rfl⟩
    obtain ⟨Y, hY⟩ : ∃ z, wr.heap.size = z := ⟨_, rfl⟩
    rw [hws] at by_ ky kxs
    rw [hY] at ky
    have HBS := hide (HB.out.trans (by_.mono HB.out.size))
    have HWS := hide hws
    have HY := hide hY
    have KY := hide ky
    have KXS := hide kxs
    clear hit hm by_ ky kxr kxs hws hY hg hlt
    go_upto_region 4 with (fail)
    rw [HWS.out, HY.out]
    clear HWS HY n0 n1 n2 n3 n4 n5 n6 n7 n8
    have y0 : ws.cell? ⟨Y, 0, none⟩ = some (.string ek) := KY.out.cell 0
    have y1 : ws.cell? ⟨Y, 1, none⟩ = some (.int .i64 er) := KY.out.cell 1
    have y2 : ws.cell? ⟨Y, 2, none⟩ = some (.int .i64 ec) := KY.out.cell 2
    have y3 : ws.cell? ⟨Y, 3, none⟩ = some (.int .i64 ep) := KY.out.cell 3
    have y4 : ws.cell? ⟨Y, 4, none⟩ = some (.int .i64 et) := KY.out.cell 4
    have y5 : ws.cell? ⟨Y, 5, none⟩ = some (.int .i64 eq) := KY.out.cell 5
    have y6 : ws.cell? ⟨Y, 6, none⟩ = some (.bool ed) := KY.out.cell 6
    have y7 : ws.cell? ⟨Y, 7, none⟩ = some (.int .i64 ef) := KY.out.cell 7
    have y8 : ws.cell? ⟨Y, 8, none⟩ = some (.int .i64 es) := KY.out.cell 8
    cases ed with
    | true =>
      go_wp2_with (first | (go_at_call 49; refine (WC.out _ _ _ _ _ _ _ _ _ _).mono ?_; rintro e wt ⟨rfl, hbt⟩))
      have HBT := hide (HBS.out.trans (hbt.mono HBS.out.size))
      have HT := hide (show leaveB (r.take (j + 1)) ⟨mkey, mfr, mto, mca, mtg, mva, msz, mtk⟩ = true by rw [leave_take HM.out, HL.out]; rfl)
      clear hbt
      go_roundw
      case rel => exact ⟨⟨j + 1, HLT.out, by go_num, HT⟩, HBT⟩
      case measure => have := HLT.out; simp [RowKit.intOf] <;> omega
    | false =>
      go_wp2_with (fail)
      refine (WC.out _ _ _ _ _ _ _ _ _ _).mono ?_
      rintro e wt ⟨rfl, hbt⟩
      have kyt := KY.out.below hbt KY.out.lt
      have kxt := KXS.out.below hbt KXS.out.lt
      have t0 : wt.cell? ⟨Y, 0, none⟩ = some (.string ek) := kyt.cell 0
      have t1 : wt.cell? ⟨Y, 1, none⟩ = some (.int .i64 er) := kyt.cell 1
      have t2 : wt.cell? ⟨Y, 2, none⟩ = some (.int .i64 ec) := kyt.cell 2
      have t3 : wt.cell? ⟨Y, 3, none⟩ = some (.int .i64 ep) := kyt.cell 3
      have t4 : wt.cell? ⟨Y, 4, none⟩ = some (.int .i64 et) := kyt.cell 4
      have t5 : wt.cell? ⟨Y, 5, none⟩ = some (.int .i64 eq) := kyt.cell 5
      have t6 : wt.cell? ⟨Y, 6, none⟩ = some (.bool false) := kyt.cell 6
      have t7 : wt.cell? ⟨Y, 7, none⟩ = some (.int .i64 ef) := kyt.cell 7
      have t8 : wt.cell? ⟨Y, 8, none⟩ = some (.int .i64 es) := kyt.cell 8
      have u0 : wt.cell? ⟨X, 0, none⟩ = some (.string mkey) := kxt.cell 0
      have u1 : wt.cell? ⟨X, 1, none⟩ = some (.int .i64 mfr) := kxt.cell 1
      have u2 : wt.cell? ⟨X, 2, none⟩ = some (.int .i64 mto) := kxt.cell 2
      have u3 : wt.cell? ⟨X, 3, none⟩ = some (.int .i64 mca) := kxt.cell 3
      have u4 : wt.cell? ⟨X, 4, none⟩ = some (.int .i64 mtg) := kxt.cell 4
      have u5 : wt.cell? ⟨X, 5, none⟩ = some (.int .i64 mva) := kxt.cell 5
      have u6 : wt.cell? ⟨X, 6, none⟩ = some (.int .i64 msz) := kxt.cell 6
      have u7 : wt.cell? ⟨X, 7, none⟩ = some (.bool mtk) := kxt.cell 7
      have HBT := hide (HBS.out.trans (hbt.mono HBS.out.size))
      clear hbt kyt kxt y0 y1 y2 y3 y4 y5 y6 y7 y8
      obtain ⟨fb, hfb⟩ : ∃ b, fitsB ⟨ek, er, ec, ep, et, eq, false, ef, es⟩ ⟨mkey, mfr, mto, mca, mtg, mva, msz, mtk⟩ = b := ⟨_, rfl⟩
      have FC2 : Hid (Calls Try.prog 21 #[.agg #[.string ek, .int .i64 er, .int .i64 ec, .int .i64 ep, .int .i64 et, .int .i64 eq, .bool false, .int .i64 ef, .int .i64 es], .agg #[.string mkey, .int .i64 mfr, .int .i64 mto, .int .i64 mca, .int .i64 mtg, .int .i64 mva, .int .i64 msz, .bool mtk]] wt fun e w' => e = .returned (.bool fb) ∧ Below wt.heap.size wt w') := hide (by
        have h := FC.out ek er ec ep et eq false ef es wt
        rwa [hfb] at h)
      have HFB := hide hfb
      clear hfb FC
      cases fb with
      | true =>
        go_wp2_with (go_at_call 21; refine FC2.out.mono ?_; rintro e wu ⟨rfl, hbu⟩)
        go_ret
        exact ⟨by rw [leave_no HM.out rfl HFB.out]; rfl, B1.out.trans ((HBT.out.trans (hbu.mono HBT.out.size)).mono B1.out.size)⟩
      | false =>
        go_wp2_with (go_at_call 21; refine FC2.out.mono ?_; rintro e wu ⟨rfl, hbu⟩)
        have HBU := hide (HBT.out.trans (hbu.mono HBT.out.size))
        have HT := hide (show leaveB (r.take (j + 1)) ⟨mkey, mfr, mto, mca, mtg, mva, msz, mtk⟩ = true by rw [leave_take HM.out, HL.out, HFB.out]; rfl)
        clear hbu
        go_roundw
        case rel => exact ⟨⟨j + 1, HLT.out, by go_num, HT⟩, HBU⟩
        case measure => have := HLT.out; simp [RowKit.intOf] <;> omega
end Po
end Go.Proofs.Ytonmojinijpneaa
