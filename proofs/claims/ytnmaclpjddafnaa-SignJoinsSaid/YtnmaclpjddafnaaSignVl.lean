/- Two signatures joined: the reference's Join. -/
import Derived.Test.YtnmaclpjddafnaaRows
import Derived.Test.YtnmaclpjddafnaaSignVk
import Derived.Test.YtnmaclpjddafnaaSignJ
import Derived.Test.YtnmaclpjddafnaaSignQ
import Derived.Test.YtnmaclpjddafnaaSignPq
namespace Go.Proofs.Ytnmaclpjddafnaa
open Go Go.RowKit
set_option linter.unusedVariables false
set_option linter.unusedSimpArgs false
namespace Jn
def JoinB (a b : List Ch) (w : World) (e : Ending) (w' : World) : Prop :=
  ((agL a b = false ∧ e = .returned (.tuple #[.slice none 0 0, .int .i64 2])) ∨ (agL a b = true ∧ ∃ l V, IsJoin a b l ∧ e = .returned (.tuple #[V, .int .i64 0]) ∧ w'.ownsRow w.heap.size 24 5 V l.length (chs l))) ∧ Below w.heap.size w w'
theorem join_ok {a b o : List Ch} (h : IsJoin a b o) : ∀ i (hi : i < o.length), (o[i]).ok := fun i hi => mayC_ok (((mayL_iff o).1 h.1).1 _ (List.getElem_mem hi))
set_option maxRecDepth 100000 in
set_option maxHeartbeats 8000000 in
theorem Join_b (A B : Option Addr) (ca cb : Nat) (a b : List Ch) (w : World) (ha : CRow w A a) (hb : CRow w B b) (hla : a.length ≤ 200) (hlb : b.length ≤ 200) :
    Calls Try.prog 4 #[.slice A a.length ca, .slice B b.length cb] w (JoinB a b w) := by
  have AG := hide (Agree_b A B ca cb a b w ha hb (by omega) (by omega))
  rw [← agL_agQ] at AG
  rcases hag : agL a b with _ | _
  · rw [hag] at AG
    have HAG := hide hag
    clear hag ha hb
    go_enter Try.func4, Try.ntmps4
    go_wp2_with fail
    refine AG.out.mono ?_
    rintro e w1 ⟨rfl, hb1⟩
    have HB1 := hide hb1
    clear hb1
    go_wp2_with fail
    exact bodyPost_ret (v := .tuple #[.slice none 0 0, .int .i64 2]) (by simp [results, Try.results4, go_sem]) rfl ⟨.inl ⟨HAG.out, rfl⟩, HB1.out⟩
  rw [hag] at AG
  have HAG := hide hag
  have HA := hide ha
  have HBr := hide hb
  obtain ⟨i0, hi0, hz0, hz1, hz2⟩ := info_parts ch_info
  have HI := hide (And.intro hi0 (And.intro hz0 (And.intro hz1 hz2)))
  clear hag ha hb hi0 hz0 hz1 hz2
  go_enter Try.func4, Try.ntmps4
  go_wp2_with fail
  refine AG.out.mono ?_
  rintro e w1 ⟨rfl, hb1⟩
  have HB1 := hide hb1
  clear hb1
  obtain ⟨vL, w3, hrun, hoL, hb3⟩ := run_append_empty (P := Try.prog) (w1.alloc (.cells #[] 24)) w.heap.size 22 22 24 i0 chZ 5 40 Try.underlying22 HI.out.1 HI.out.2.1 HI.out.2.2.1 HI.out.2.2.2 rfl w1.heap.size (Blk.new w1 24 #[]) HB1.out.size (by have := HB1.out.size; simp; omega) w1.heap.size A a.length ca (chs a) ((crow_reads (HA.out.below HB1.out)).alloc (Nat.le_refl _) _) (chs_one' a) (by omega) (by decide)
  have RUN := hide hrun
  have OL := hide hoL
  have HB3 := hide ((HB1.out.alloc HB1.out.size _).trans (hb3.mono (by have := HB1.out.size; simp; omega)))
  clear hrun hoL hb3 AG
  go_wp2_with (at_builtin; refine Lib.wpList_append_run _ rfl _ _ _ _ rfl _ _ rfl rfl _ _ RUN.out ?_)
  go_loopw [6, 7] (fun v6 vi wr => ∃ (i : Nat) (vo : Value) (o : List Ch), vo = v6 ∧ i ≤ b.length ∧ vi = .int .i64 i ∧ Hid (IsJoin a (b.take i) o) ∧ Hid (wr.ownsRow w.heap.size 24 5 vo o.length (chs o)) ∧ Hid (Below w.heap.size w wr)) (fun _ vi _ => b.length - (intOf vi).toNat)
  case atStart => exact ⟨0, _, a, rfl, Nat.zero_le _, rfl, hide (join_none HAG.out), OL, HB3⟩
  case round =>
    obtain ⟨i, vo, o, rfl, hi, rfl, HJ, HO, HB⟩ := hrel
    rename World => wr
    clear RUN OL HB3
    by_cases hlt : i < b.length
    · have hol : o.length ≤ 400 := by have := HJ.out.len; rw [List.length_take] at this; omega
      obtain ⟨OA, oc, rfl, hco⟩ := own_crow HO.out (join_ok HJ.out) (by unfold maxLen; omega)
      obtain ⟨p, rfl, hp, hok, h0, h1, h2, h3, h4⟩ := (HBr.out.below HB.out).at_ hlt
      have ltI : (i : Int) < (b.length : Int) := by omega
      have STP := hide (join_step HAG.out HJ.out hlt)
      have AFD := hide (at_fnd (x := b[i]) HJ.out.1)
      have PUT := hide (fun (w' : World) (h' : Below wr.heap.size wr w') => Put_b OA oc o b[i] w' (hco.below h') (by omega))
      have AT := hide (fun (w' : World) (h' : Below wr.heap.size wr w') => At_b OA oc o b[i].r b[i].c w' (hco.below h') (by omega))
      clear hok hco
      obtain ⟨tk, htk⟩ : ∃ t, b[i] = t := ⟨_, rfl⟩
      rw [htk] at h0 h1 h2 h3 h4 STP AFD PUT AT
      clear htk
      obtain ⟨r, c, f, s, v⟩ := tk
      obtain ⟨y, hy⟩ : ∃ y, (atR o r c).1 = y := ⟨_, rfl⟩
      obtain ⟨fd, hfd⟩ : ∃ y, (atR o r c).2 = y := ⟨_, rfl⟩
      simp only at h0 h1 h2 h3 h4 AFD AT
      rw [hy, hfd] at AT
      rw [hfd] at AFD
      obtain ⟨yr, yc, yf, ys, yv⟩ := y
      unfold Ch.val at AT PUT
      simp only at AT PUT
      clear hy hfd
      have hba := (Below.refl wr.heap.size wr).alloc (Nat.le_refl _) (.cells #[.int .i64 0, .int .i64 0, .int .i64 0, .int .i64 0, .int .i64 0] 24)
      have hab : (p.add (i * 5)).block < wr.heap.size := by rw [block_of_add]; exact hp
      have g0 := (hba.cell hab).trans h0
      have g1 := (hba.cell (p := ⟨(p.add (i * 5)).block, (p.add (i * 5)).off + 1, none⟩) hab).trans h1
      clear hba
      go_wp2_with fail
      go_cut [8, 9] from 17 to 48 (fun x6 x7 wx => CutR wr yr yc yf ys yv fd x6 x7 wx)
      case first =>
        go_region_with (
          go_at_call 10
          refine (AT.out _ ?hB).mono ?_
          case hB => first | exact (Below.refl wr.heap.size wr).drew | exact ((Below.refl wr.heap.size wr).alloc (Nat.le_refl _) _).drew
          rintro e w1 ⟨rfl, hb1⟩
          first
            | (have bk1 := (Blk.new wr 24 #[.int .i64 0, .int .i64 0, .int .i64 0, .int .i64 0, .int .i64 0]).drew.below hb1 (by simp)
               have bfr := bk1.frozen
               have f0 := bfr 0
               have f1 := bfr 1
               have f2 := bfr 2
               have f3 := bfr 3
               have f4 := bfr 4
               have d0 := bk1.cell 0
               have d1 := bk1.cell 1
               have d2 := bk1.cell 2
               have d3 := bk1.cell 3
               have d4 := bk1.cell 4
               simp only [List.getElem?_toArray, List.getElem?_cons_zero, List.getElem?_cons_succ] at d0 d1 d2 d3 d4
               have hbOld := hide hb1
               clear hb1 bk1 bfr)
            | (have hbNew := hide hb1
               clear hb1))
        all_goals
          go_wp2_with fail
          go_meet
          first | exact cut_new hbNew.out | exact cut_old hbOld.out
      case rest =>
      obtain ⟨g, rfl, rfl, hbx, bk⟩ := hcut
      replace h0 := (hbx.cell hab).trans h0
      replace h1 := (hbx.cell (p := ⟨(p.add (i * 5)).block, (p.add (i * 5)).off + 1, none⟩) hab).trans h1
      replace h2 := (hbx.cell (p := ⟨(p.add (i * 5)).block, (p.add (i * 5)).off + 2, none⟩) hab).trans h2
      replace h3 := (hbx.cell (p := ⟨(p.add (i * 5)).block, (p.add (i * 5)).off + 3, none⟩) hab).trans h3
      replace h4 := (hbx.cell (p := ⟨(p.add (i * 5)).block, (p.add (i * 5)).off + 4, none⟩) hab).trans h4
      have HX := hide (HB.out.trans (hbx.mono HB.out.size))
      have HO2 := hide (own_belowR HO.out hbx)
      have PU := hide (PUT.out wc hbx)
      clear hbx bk g0 g1 AT PUT HO HB
      rcases fd with _ | _
      rotate_left
      · have HJ2 := hide (STP.out.1 AFD.out.symm)
        go_wp2_with fail
        go_roundw
        case rel => exact ⟨i + 1, _, o, rfl, by omega, by first | trivial | go_num, HJ2, HO2, HX⟩
        case measure => simp [intOf]; omega
      · have HJ2 := hide (STP.out.2 AFD.out.symm)
        go_wp2_with fail
        refine PU.out.mono ?_
        rintro e wz ⟨⟨h9, _⟩ | ⟨_, v9, rfl, hov⟩, hbz⟩
        · rw [HJ2.out.1] at h9
          cases h9
        have HX2 := hide (HX.out.trans (hbz.mono HX.out.size))
        have HO3 := hide (own_base hov HX.out.size)
        have HJ3 := hide HJ2.out.2
        clear hov hbz PU h0 h1 h2 h3 h4
        go_wp2_with fail
        go_roundw
        case rel => exact ⟨i + 1, _, _, rfl, by omega, by first | trivial | go_num, HJ3, HO3, HX2⟩
        case measure => simp [intOf]; omega
    · obtain rfl : i = b.length := by omega
      have ltI : ¬ (b.length : Int) < (b.length : Int) := by omega
      have HJ2 : Hid (IsJoin a b o) := hide (by have h9 := HJ.out; rwa [List.take_length] at h9)
      clear HJ
      go_wp2_with fail
      exact bodyPost_ret (v := .tuple #[vo, .int .i64 0]) (by simp [results, Try.results4, go_sem]) rfl ⟨.inr ⟨HAG.out, o, vo, HJ2.out, rfl, HO.out⟩, HB.out⟩
end Jn
end Go.Proofs.Ytnmaclpjddafnaa
