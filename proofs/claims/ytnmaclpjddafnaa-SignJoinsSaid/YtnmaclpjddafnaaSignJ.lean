/- Whether rows agree, whether one is within another: the reference's answers. -/
import Derived.Test.YtnmaclpjddafnaaRows
import Derived.Test.YtnmaclpjddafnaaSignI
import Derived.Test.YtnmaclpjddafnaaSignEb
import Derived.Deep.RegionWith
import Derived.Deep.CutRange
namespace Go.Proofs.Ytnmaclpjddafnaa
open Go.RowKit
set_option linter.unusedVariables false
set_option linter.unusedSimpArgs false
set_option maxRecDepth 100000 in
set_option maxHeartbeats 4000000 in
theorem Agree_b (A B : Option Addr) (ca cb : Nat) (a b : List Ch) (w : World) (ha : CRow w A a) (hb : CRow w B b) (hla : a.length ≤ 1000) (hlb : b.length ≤ 1000) :
    Calls Try.prog 9 #[.slice A a.length ca, .slice B b.length cb] w fun e w' => e = .returned (.bool (agQ a b)) ∧ Below w.heap.size w w' := by
  have MA := hide fun (w' : World) (h : Below w.heap.size w w') => May_b A ca a w' (ha.below h) hla
  have MB := hide fun (w' : World) (h : Below w.heap.size w w') => May_b B cb b w' (hb.below h) hlb
  have AB := hide fun (r c : Int) (w' : World) (h : Below w.heap.size w w') => At_b B cb b r c w' (hb.below h) hlb
  have HA := hide ha
  have hq : Try.prog.eqGuardType Try.prog.depth 24 = false := by kernel_rfl
  clear ha hb
  go_enter Try.func9, Try.ntmps9
  go_wp2_with fail
  go_loopw [5] (fun vi wr => ∃ i : Nat, i ≤ a.length ∧ vi = .int .i64 i ∧ Hid (∀ k (hk : k < i) (hl : k < a.length), stAg b a[k] = true) ∧ Hid (Below w.heap.size w wr)) (fun vi _ => a.length - (intOf vi).toNat)
  case atStart => exact ⟨0, Nat.zero_le _, rfl, hide (fun k hk => absurd hk (Nat.not_lt_zero k)), hide (Below.refl _ _)⟩
  case round =>
    obtain ⟨i, hi, rfl, HN, HB⟩ := hrel
    by_cases hlt : i < a.length
    · obtain ⟨p, rfl, hp, hok, h0, h1, h2, h3, h4⟩ := (HA.out.below HB.out).at_ hlt
      have ltI : (i : Int) < (a.length : Int) := by omega
      have HS : Hid (stAg b a[i] = true → ∀ k (hk : k < i + 1) (hl : k < a.length), stAg b a[k] = true) := hide fun hx k hk hk2 => by
        rcases Nat.lt_or_ge k i with h5 | h5
        · exact HN.out k h5 hk2
        · obtain rfl : k = i := by omega
          exact hx
      have HF : Hid (stAg b a[i] = false → agQ a b = false) := hide fun hx => by unfold agQ; rw [all_no hlt hx]; rfl
      clear hok
      have EQ : Hid (stAg b a[i] = !((atR b a[i].r a[i].c).2 && !decide ((atR b a[i].r a[i].c).1 = a[i]))) := hide rfl
      generalize stAg b a[i] = sg at *
      have NQ := fun y : Ch => neqCh y a[i]
      generalize a[i] = tk at *
      obtain ⟨r, c, f, s, v⟩ := tk
      simp only at h0 h1 h2 h3 h4 EQ NQ
      have AT := hide (fun w' h => AB.out r c w' h)
      generalize atR b r c = ar at *
      obtain ⟨y, fd⟩ := ar
      simp only at AT EQ
      replace NQ := NQ y
      have HQ : Hid (decide (y = ⟨r, c, f, s, v⟩) = decide (y = ⟨r, c, f, s, v⟩)) := hide rfl
      generalize decide (y = ⟨r, c, f, s, v⟩) = dq at *
      obtain ⟨yr, yc, yf, ys, yv⟩ := y
      unfold Ch.val at AT
      simp only at AT NQ
      clear AB HQ
      have hba := (Below.refl wr.heap.size wr).alloc (Nat.le_refl _) (.cells #[.int .i64 0, .int .i64 0, .int .i64 0, .int .i64 0, .int .i64 0] 24)
      have hab : (p.add (i * 5)).block < wr.heap.size := by rw [block_of_add]; exact hp
      have g0 := (hba.cell hab).trans h0
      have g1 := (hba.cell (p := ⟨(p.add (i * 5)).block, (p.add (i * 5)).off + 1, none⟩) hab).trans h1
      clear hba
      go_wp2_with fail
      go_cut [6, 7] from 8 to 37 (fun x6 x7 wx => CutR wr yr yc yf ys yv fd x6 x7 wx)
      case first =>
        go_region_with (
          go_at_call 10
          refine (AT.out _ ?hB).mono ?_
          case hB => first | exact HB.out.drew | exact (HB.out.alloc HB.out.size _).drew
          rintro e w1 ⟨rfl, hb1⟩
          first
            | (have bk1 := (Blk.new wr 24 #[.int .i64 0, .int .i64 0, .int .i64 0, .int .i64 0, .int .i64 0]).drew.below hb1 (by simp)
               have bfr := bk1.frozen
               have f0 := bfr 0
               have f1 := bfr 1
               have f2 := bfr 2
               have f3 := bfr 3
               have f4 := bfr 4
               have d0 := bk1.cell 0
               have d1 := bk1.cell 1
               have d2 := bk1.cell 2
               have d3 := bk1.cell 3
               have d4 := bk1.cell 4
               simp only [List.getElem?_toArray, List.getElem?_cons_zero, List.getElem?_cons_succ] at d0 d1 d2 d3 d4
               have hbOld := hide hb1
               clear hb1 bk1 bfr)
            | (have hbNew := hide hb1
               clear hb1))
        all_goals
          go_wp2_with fail
          go_meet
          first | exact cut_new hbNew.out | exact cut_old hbOld.out
      case rest =>
      obtain ⟨g, rfl, rfl, hbx, bk⟩ := hcut
      replace h0 := (hbx.cell hab).trans h0
      replace h1 := (hbx.cell (p := ⟨(p.add (i * 5)).block, (p.add (i * 5)).off + 1, none⟩) hab).trans h1
      replace h2 := (hbx.cell (p := ⟨(p.add (i * 5)).block, (p.add (i * 5)).off + 2, none⟩) hab).trans h2
      replace h3 := (hbx.cell (p := ⟨(p.add (i * 5)).block, (p.add (i * 5)).off + 3, none⟩) hab).trans h3
      replace h4 := (hbx.cell (p := ⟨(p.add (i * 5)).block, (p.add (i * 5)).off + 4, none⟩) hab).trans h4
      have c0 := bk.cell 0
      have c1 := bk.cell 1
      have c2 := bk.cell 2
      have c3 := bk.cell 3
      have c4 := bk.cell 4
      simp only [List.getElem?_toArray, List.getElem?_cons_zero, List.getElem?_cons_succ] at c0 c1 c2 c3 c4
      have HX := hide (HB.out.trans (hbx.mono HB.out.size))
      clear hbx bk g0 g1
      rcases fd with _ | _
      · have HN2 := hide (HS.out (by rw [EQ.out]; rfl))
        clear HS HF EQ
        go_wp2_with fail
        go_quiet (fail)
        go_wp2_with fail
        go_roundw
        case rel => exact ⟨i + 1, by omega, by first | trivial | go_num, HN2, hide below_drewN HX.out _⟩
        case measure => simp [intOf]; omega
      rcases dq with _ | _
      · have E := hide (HF.out (by rw [EQ.out]; rfl))
        clear HS HF EQ
        go_wp2_with fail
        go_quiet (fail)
        go_wp2_with fail
        go_ret
        exact ⟨by rw [E.out]; rfl, below_drewN HX.out _⟩
      · have HN2 := hide (HS.out (by rw [EQ.out]; rfl))
        clear HS HF EQ
        go_wp2_with fail
        go_quiet (fail)
        go_wp2_with fail
        go_roundw
        case rel => exact ⟨i + 1, by omega, by first | trivial | go_num, HN2, hide below_drewN HX.out _⟩
        case measure => simp [intOf]; omega
    · obtain rfl : i = a.length := by omega
      have ltI : ¬ (a.length : Int) < (a.length : Int) := by omega
      have HAll := hide (all_yes (l := a) (p := stAg b) fun k hk => HN.out k hk hk)
      rcases hma : mayL a with _ | _
      · have E : Hid (agQ a b = false) := hide (by unfold agQ; rw [HAll.out, hma]; rfl)
        rw [hma] at MA
        clear hma
        go_wp2_with fail
        refine (MA.out _ HB.out).mono ?_
        rintro e w2 ⟨rfl, hb2⟩
        have HB2 := hide (HB.out.trans (hb2.mono HB.out.size))
        clear hb2
        go_wp2_with fail
        go_ret
        exact ⟨by rw [E.out]; rfl, HB2.out⟩
      · have E : Hid (agQ a b = mayL b) := hide (by unfold agQ; rw [HAll.out, hma]; rfl)
        rw [hma] at MA
        clear hma
        generalize mayL b = mb at *
        go_wp2_with fail
        refine (MA.out _ HB.out).mono ?_
        rintro e w2 ⟨rfl, hb2⟩
        have HB2 := hide (HB.out.trans (hb2.mono HB.out.size))
        clear hb2
        go_wp2_with fail
        refine (MB.out _ HB2.out).mono ?_
        rintro e w3 ⟨rfl, hb3⟩
        have HB3 := hide (HB2.out.trans (hb3.mono HB2.out.size))
        clear hb3
        go_wp2_with fail
        go_ret
        exact ⟨by rw [E.out]; rfl, HB3.out⟩
end Go.Proofs.Ytnmaclpjddafnaa
