/- The contracts of the statements' own helpers: what a clock is told of another one, the chapter's examples. -/
import Derived.Test.YtjmidldmhmhbnaaClockH
namespace Go.Proofs.Ytjmidldmhmhbnaa
open Go.RowKit Go.Shelf
set_option linter.unusedVariables false
set_option linter.unusedSimpArgs false

def lawOf (l m : List Int) : Nat := if may2B l m then ofU l m else 9
theorem lawOf_yes {l m : List Int} (h : may2B l m = true) : lawOf l m = ofU l m := by simp [lawOf, h]
theorem lawOf_no {l m : List Int} (h : may2B l m = false) : lawOf l m = 9 := by simp [lawOf, h]

set_option maxRecDepth 100000 in
set_option maxHeartbeats 1000000 in
theorem lawOf_a (A A' : Option Addr) (l m : List Int) (cap cap' : Nat) (w : World) (hr : Rd w w.heap.size A l) (hr' : Rd w w.heap.size A' m) (hm : l.length ≤ maxLen) (hm' : m.length ≤ maxLen) :
    Calls Try.prog 26 #[.slice A l.length cap, .slice A' m.length cap'] w fun e w' => e = .returned (.int .u8 (lawOf l m)) ∧ Below w.heap.size w w' := by
  have Hr := hide hr
  have Hr' := hide hr'
  clear hr hr'
  by_cases h : may2B l m = true
  · rw [lawOf_yes h]
    have hE := ofE_y h
    have HE := hide hE
    clear h hE
    go_enter Try.func26, Try.ntmps26
    go_wp2_with fail
    refine (of_a _ _ _ _ _ _ _ Hr.out Hr'.out hm hm').mono ?_
    rw [HE.out]
    rintro e w' ⟨rfl, hb⟩
    go_wp2
    go_ret
    exact ⟨rfl, hb⟩
  · have hno : may2B l m = false := by simpa using h
    rw [lawOf_no hno]
    have HE := hide (of_no hno).2
    clear h hno
    go_enter Try.func26, Try.ntmps26
    go_wp2_with fail
    refine (of_a _ _ _ _ _ _ _ Hr.out Hr'.out hm hm').mono ?_
    rw [HE.out]
    rintro e w' ⟨rfl, hb⟩
    go_wp2
    go_ret
    exact ⟨rfl, hb⟩

/-- A row of numbers that was just written down. -/
theorem lit1 (W : World) (l : List Int) : Rd (W.alloc (.cells (ints l).toArray 3)) (W.heap.size + 1) (some ⟨W.heap.size, 0, none⟩) l := by
  refine ⟨by simp [ints], fun _ => ⟨_, rfl, by simp, fun j u hu => ?_⟩⟩
  have : (⟨W.heap.size, 0, none⟩ : Addr).add j = ⟨W.heap.size, j, none⟩ := by
    unfold Addr.add
    split
    · rename_i h; subst h; rfl
    · simp
  rw [this, World.cell?_alloc_new]
  simpa using hu
theorem lit2 (W : World) (l m : List Int) :
    Rd ((W.alloc (.cells (ints l).toArray 3)).alloc (.cells (ints m).toArray 3)) ((W.alloc (.cells (ints l).toArray 3)).alloc (.cells (ints m).toArray 3)).heap.size (some ⟨W.heap.size, 0, none⟩) l ∧
    Rd ((W.alloc (.cells (ints l).toArray 3)).alloc (.cells (ints m).toArray 3)) ((W.alloc (.cells (ints l).toArray 3)).alloc (.cells (ints m).toArray 3)).heap.size (some ⟨W.heap.size + 1, 0, none⟩) m := by
  refine ⟨((lit1 W l).alloc (by simp) _).more (by simp), ?_⟩
  have h := lit1 (W.alloc (.cells (ints l).toArray 3)) m
  rw [World.size_alloc] at h
  exact h.more (by simp)

theorem below1 (W : World) (o : Obj) : Below W.heap.size W (W.alloc o) := (Below.refl _ _).alloc (Nat.le_refl _) o
theorem below2 (W : World) (o o' : Obj) : Below W.heap.size W ((W.alloc o).alloc o') := ((Below.refl _ _).alloc (Nat.le_refl _) o).alloc (by simp) o'
theorem lit1' (W : World) (l : List Int) : Rd (W.alloc (.cells (ints l).toArray 3)) (W.alloc (.cells (ints l).toArray 3)).heap.size (some ⟨W.heap.size, 0, none⟩) l := (lit1 W l).more (by simp)
theorem rd_on {w w' : World} {A : Option Addr} {l : List Int} (h : Rd w w.heap.size A l) (hb : Below w.heap.size w w') : Rd w' w'.heap.size A l := Reads.more (Reads.below h hb) hb.size

set_option maxRecDepth 100000 in
set_option maxHeartbeats 2000000 in
theorem awake_a (w : World) : Calls Try.prog 24 #[] w fun e w' => e = .returned (.bool true) ∧ Below w.heap.size w w' := by
  have M1 := hide (show mergeL [1, 2, 0] [0, 3, 0] = [1, 3, 0] ∧ mergeE [1, 2, 0] [0, 3, 0] = 0 by decide +kernel)
  have M2 := hide (show lateB [0, 3, 0] [1, 2, 0] 0 = true ∧ lateE [0, 3, 0] [1, 2, 0] 0 = 0 by decide +kernel)
  have M3 := hide (show lateB [1, 3, 0] [1, 2, 0] 0 = false ∧ lateE [1, 3, 0] [1, 2, 0] 0 = 0 by decide +kernel)
  have M4 := hide (show tickL [1, 2, 0] 2 = [1, 2, 1] ∧ tickE [1, 2, 0] 2 = 0 by decide +kernel)
  have M5 := hide (show lawOf [1, 2, 0] [1, 3, 0] = 1 by decide +kernel)
  have M6 := hide (show lawOf [1, 2, 0] [0, 3, 0] = 3 by decide +kernel)
  have M7 := hide (show lawOf [1] [1, 2] = 9 by decide +kernel)
  have M8 := hide (show sumB [1, 2, 0] = 3 by decide +kernel)
  have M9 := hide (show sameB [1, 3, 0] [1, 3, 0] = true ∧ sameB [1, 2, 1] [1, 2, 1] = true by decide +kernel)
  go_enter Try.func24, Try.ntmps24
  go_wp2_with fail
  refine (merge_a _ _ [1, 2, 0] [0, 3, 0] 3 3 _ (lit2 w _ _).1 (lit2 w _ _).2 (by decide +kernel) (by decide +kernel)).mono ?_
  rw [M1.out.1, M1.out.2]
  rintro e W1 ⟨A1, c1, rfl, ho1, hb1⟩
  have hB1 : Below w.heap.size w W1 := (below2 w _ _).trans (hb1.mono (by simp; omega))
  have R1 := hide ho1.reads
  clear ho1 hb1
  go_wp2_with fail
  refine (late_a _ _ [0, 3, 0] [1, 2, 0] 3 3 _ _ 0 _ (lit2 W1 _ _).1 (lit2 W1 _ _).2 (by decide +kernel) (by decide +kernel)).mono ?_
  rw [M2.out.1, M2.out.2]
  rintro e W2 ⟨rfl, n2, hw⟩
  have hb2 : Below W1.heap.size W1 W2 := by rw [hw]; exact below_drewN (below2 W1 _ _) n2
  have hB2 : Below w.heap.size w W2 := hB1.trans (hb2.mono hB1.size)
  have R2 := hide (rd_on R1.out hb2)
  clear hw hb2 R1 hB1
  go_wp2_with fail
  refine (late_a _ _ [1, 3, 0] [1, 2, 0] 3 3 _ _ 0 _ (lit2 W2 _ _).1 (lit2 W2 _ _).2 (by decide +kernel) (by decide +kernel)).mono ?_
  rw [M3.out.1, M3.out.2]
  rintro e W3 ⟨rfl, n3, hw⟩
  have hb3 : Below W2.heap.size W2 W3 := by rw [hw]; exact below_drewN (below2 W2 _ _) n3
  have hB3 : Below w.heap.size w W3 := hB2.trans (hb3.mono hB2.size)
  have R3 := hide (rd_on R2.out hb3)
  clear hw hb3 R2 hB2
  go_wp2_with fail
  refine (tick_a _ [1, 2, 0] 3 2 _ (lit1' W3 _) (by decide +kernel)).mono ?_
  rw [M4.out.1, M4.out.2]
  rintro e W4 ⟨A4, c4, rfl, ho4, hb4⟩
  have hb4' : Below W3.heap.size W3 W4 := (below1 W3 _).trans (hb4.mono (by simp))
  have hB4 : Below w.heap.size w W4 := hB3.trans (hb4'.mono hB3.size)
  have R4 := hide (rd_on R3.out hb4')
  have S4 := hide ho4.reads
  clear hb4 hb4' R3 hB3 ho4
  go_wp2_with fail
  refine (lawOf_a _ _ [1, 2, 0] [1, 3, 0] 3 3 _ (lit2 W4 _ _).1 (lit2 W4 _ _).2 (by decide +kernel) (by decide +kernel)).mono ?_
  rw [M5.out]
  rintro e W5 ⟨rfl, hb5⟩
  have hb5' : Below W4.heap.size W4 W5 := (below2 W4 _ _).trans (hb5.mono (by simp; omega))
  have hB5 : Below w.heap.size w W5 := hB4.trans (hb5'.mono hB4.size)
  have R5 := hide (rd_on R4.out hb5')
  have S5 := hide (rd_on S4.out hb5')
  clear hb5 hb5' R4 S4 hB4
  go_wp2_with fail
  refine (lawOf_a _ _ [1, 2, 0] [0, 3, 0] 3 3 _ (lit2 W5 _ _).1 (lit2 W5 _ _).2 (by decide +kernel) (by decide +kernel)).mono ?_
  rw [M6.out]
  rintro e W6 ⟨rfl, hb6⟩
  have hb6' : Below W5.heap.size W5 W6 := (below2 W5 _ _).trans (hb6.mono (by simp; omega))
  have hB6 : Below w.heap.size w W6 := hB5.trans (hb6'.mono hB5.size)
  have R6 := hide (rd_on R5.out hb6')
  have S6 := hide (rd_on S5.out hb6')
  clear hb6 hb6' R5 S5 hB5
  go_wp2_with fail
  refine (lawOf_a _ _ [1] [1, 2] 1 2 _ (lit2 W6 _ _).1 (lit2 W6 _ _).2 (by decide +kernel) (by decide +kernel)).mono ?_
  rw [M7.out]
  rintro e W7 ⟨rfl, hb7⟩
  have hb7' : Below W6.heap.size W6 W7 := (below2 W6 _ _).trans (hb7.mono (by simp; omega))
  have hB7 : Below w.heap.size w W7 := hB6.trans (hb7'.mono hB6.size)
  have R7 := hide (rd_on R6.out hb7')
  have S7 := hide (rd_on S6.out hb7')
  clear hb7 hb7' R6 S6 hB6
  go_wp2_with fail
  refine (ints_same _ _ [1, 3, 0] [1, 3, 0] _ 3 _ _ _ (rd_on R7.out (below1 W7 _)) (lit1' W7 _) (by decide +kernel) (by decide +kernel)).mono ?_
  rw [M9.out.1]
  rintro e W8 ⟨rfl, n8, hw⟩
  have hb8 : Below W7.heap.size W7 W8 := by rw [hw]; exact below_drewN (below1 W7 _) n8
  have hB8 : Below w.heap.size w W8 := hB7.trans (hb8.mono hB7.size)
  have S8 := hide (rd_on S7.out hb8)
  clear hw hb8 R7 S7 hB7
  go_wp2_with fail
  refine (ints_same _ _ [1, 2, 1] [1, 2, 1] _ 3 _ _ _ (rd_on S8.out (below1 W8 _)) (lit1' W8 _) (by decide +kernel) (by decide +kernel)).mono ?_
  rw [M9.out.2]
  rintro e W9 ⟨rfl, n9, hw⟩
  have hb9 : Below W8.heap.size W8 W9 := by rw [hw]; exact below_drewN (below1 W8 _) n9
  have hB9 : Below w.heap.size w W9 := hB8.trans (hb9.mono hB8.size)
  clear hw hb9 S8 hB8
  go_wp2_with fail
  refine (sum_a _ [1, 2, 0] 3 _ _ (lit1' W9 _) (by decide +kernel)).mono ?_
  rw [M8.out]
  rintro e W10 ⟨rfl, hw⟩
  have hB10 : Below w.heap.size w W10 := by rw [← hw]; exact hB9.trans ((below1 W9 _).mono hB9.size)
  clear hw hB9
  go_wp2
  go_ret
  exact ⟨rfl, hB10⟩
end Go.Proofs.Ytjmidldmhmhbnaa
