/- The document's queue: Senders. -/
import Derived.Test.YtomladbdebfikaaRows
import Derived.Test.YtomladbdebfikaaQuR
namespace Go.Proofs.Ytomladbdebfikaa
open Go Go.RowKit Go.Lib
set_option linter.unusedVariables false
set_option linter.unusedSimpArgs false
namespace Qu
def waitB (l : List Msg) (b : Inb) (j : Nat) : List Int := (upto j).filter fun f => (firstL l ⟨b.key, f, b.to⟩ (-1)).isSome
theorem waitB_step (l : List Msg) (b : Inb) (j : Nat) : waitB l b (j + 1) = waitB l b j ++ if (firstL l ⟨b.key, (j : Int), b.to⟩ (-1)).isSome then [(j : Int)] else [] := by
  unfold waitB
  rw [show upto (j + 1) = upto j ++ [(j : Int)] by unfold upto; rw [List.range_succ, List.map_append]; rfl, List.filter_append]
  congr 1
  rw [List.filter_cons]
  split <;> rfl
theorem waitB_len (l : List Msg) (b : Inb) (j : Nat) : (waitB l b j).length ≤ j := Nat.le_trans (List.length_filter_le _ _) (by simp [upto])
set_option maxRecDepth 100000 in
set_option maxHeartbeats 16000000 in
theorem Senders_b {w : World} {p : Nat} {l : List Msg} (h : RSt w p l) (b : Inb) (hl : l.length ≤ 1000) :
    Calls Try.prog 28 #[.pointer (some ⟨p, 0, none⟩), .string b.key, .int .i64 b.to] w fun e w' => ∃ A1 c1, e = .returned (.slice A1 (sendersL l b).length c1) ∧ w'.ownsRow w.heap.size 3 1 (.slice A1 (sendersL l b).length c1) (sendersL l b).length (ints (sendersL l b)) ∧ Below w.heap.size w w' := by
  have HQ0 := hide h
  have OW0 := hide (show w.ownsRow w.heap.size 3 1 (.slice none 0 0) (waitB l b 0).length (ints (waitB l b 0)) from ⟨rfl, .inl ⟨rfl, rfl⟩⟩)
  have HB0 := hide (And.intro (Below.refl w.heap.size w) (Nat.le_refl w.heap.size))
  have HNL := hide hl
  clear h hl
  go_enter Try.func28, Try.ntmps28
  go_wp2_with fail
  go_loopw [7, 8, 9, 10] (fun v7 v8 _ _ wr => ∃ (j : Nat) (A1 : Option Addr) (c1 : Nat), j ≤ 64 ∧ v8 = .int .i64 j ∧ v7 = .slice A1 (waitB l b j).length c1 ∧ Hid (wr.ownsRow w.heap.size 3 1 (.slice A1 (waitB l b j).length c1) (waitB l b j).length (ints (waitB l b j))) ∧ Hid (Below w.heap.size w wr ∧ w.heap.size ≤ wr.heap.size)) (fun _ v8 _ _ _ => 64 - (RowKit.intOf v8).toNat)
  case atStart => exact ⟨0, none, 0, Nat.zero_le _, rfl, rfl, OW0, HB0⟩
  case round =>
    obtain ⟨j, A1, c1, hj, rfl, rfl, HOW, HBR⟩ := hrel
    rename World => wr
    by_cases hlt : j < 64
    rotate_left
    · have hltI : ¬ (j : Int) < (64 : Int) := by omega
      obtain rfl : 64 = j := by omega
      go_wp2_with fail
      go_ret
      have e : waitB l b 64 = sendersL l b := rfl
      have h1 := HOW.out
      rw [e] at h1
      exact ⟨A1, c1, by rw [e]; rfl, h1, HBR.out.1⟩
    have hltI : (j : Int) < (64 : Int) := by omega
    have HQR := hide (HQ0.out.below HBR.out.1)
    have FC := hide (First_b HQR.out ⟨b.key, (j : Int), b.to⟩ (-1) HNL.out)
    obtain ⟨res, hres⟩ : ∃ z, firstL l ⟨b.key, (j : Int), b.to⟩ (-1) = z := ⟨_, rfl⟩
    rw [hres] at FC
    have HST := hide (waitB_step l b j)
    rw [hres] at HST
    have HLT := hide hlt
    have HWL := hide (waitB_len l b j)
    clear hres hlt
    go_wp2_with fail
    refine FC.out.mono ?_
    unfold tellV
    rintro e w5 ⟨rfl, hb5⟩
    obtain ⟨y, hy⟩ : ∃ y, res.getD m0 = y := ⟨_, rfl⟩
    rw [hy]
    have HB5 := hide (And.intro (HBR.out.1.trans (hb5.mono HBR.out.2)) (Nat.le_trans HBR.out.2 hb5.size))
    have OW5 := hide (own_belowR HOW.out hb5)
    have ba := (Below.refl w5.heap.size w5).alloc (Nat.le_refl _) (.cells #[.string y.key, .int .i64 y.fr, .int .i64 y.to, .int .i64 y.ca, .int .i64 y.tg, .int .i64 y.va, .int .i64 y.sz, .bool y.tk] 31)
    obtain ⟨w6, hw6⟩ : ∃ z, w5.alloc (.cells #[.string y.key, .int .i64 y.fr, .int .i64 y.to, .int .i64 y.ca, .int .i64 y.tg, .int .i64 y.va, .int .i64 y.sz, .bool y.tk] 31) = z := ⟨_, rfl⟩
    rw [hw6] at ba
    have HB6 := hide (And.intro (HB5.out.1.trans (ba.mono HB5.out.2)) (Nat.le_trans HB5.out.2 ba.size))
    have OW6 := hide (own_belowR OW5.out ba)
    have HW6 := hide hw6
    clear hb5 ba hw6 hy FC
    go_upto_region 6 with (fail)
    rw [HW6.out]
    cases res with
    | none =>
      have HU : Hid (waitB l b (j + 1) = waitB l b j) := hide (by rw [HST.out]; simp)
      go_wp2_with fail
      go_roundw
      case rel => exact ⟨j + 1, A1, c1, HLT.out, by go_num, by rw [HU.out], by rw [HU.out]; exact OW6, HB6⟩
      case measure => have := HLT.out; simp [RowKit.intOf] <;> omega
    | some m =>
      have HU : Hid (waitB l b (j + 1) = waitB l b j ++ [(j : Int)]) := hide (by rw [HST.out]; simp)
      obtain ⟨A2, c2', w7, hrun, hown, hb7⟩ := push_n w6 w.heap.size A1 c1 _ _ (j : Int) OW6.out HB6.out.2 (by have := HWL.out; have := HLT.out; omega)
      have HB7 := hide (And.intro (HB6.out.1.trans hb7) (Nat.le_trans HB6.out.2 hb7.size))
      have HLN := hide (show (waitB l b (j + 1)).length = (waitB l b j).length + 1 by rw [HU.out]; simp)
      have OW7 := hide (show w7.ownsRow w.heap.size 3 1 (.slice A2 ((waitB l b j).length + 1) c2') ((waitB l b j).length + 1) (ints (waitB l b (j + 1))) by
        rw [HU.out, ints_app]
        exact hown)
      have RUN := hide hrun
      clear hrun hown hb7
      go_wp2_with (at_builtin; refine Lib.wpList_append_run _ rfl _ _ 49 49 rfl _ _ rfl rfl _ _ RUN.out ?_)
      go_roundw
      case rel => exact ⟨j + 1, A2, c2', HLT.out, by go_num, by rw [HLN.out], by rw [HLN.out]; exact OW7, HB7⟩
      case measure => have := HLT.out; simp [RowKit.intOf] <;> omega
end Qu
end Go.Proofs.Ytomladbdebfikaa
