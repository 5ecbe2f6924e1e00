/- The chapter's example: awake. -/
import Derived.Test.YtnmaclpjddafnaaDoorRows
import Derived.Test.YtnmaclpjddafnaaDoorSignPa
import Derived.Test.YtnmaclpjddafnaaDoorSignPu
import Derived.Test.YtnmaclpjddafnaaDoorSignSame
import Derived.Test.YtnmaclpjddafnaaDoorSignN
namespace Go.Proofs.YtnmaclpjddafnaaDoor
open Go.RowKit
open Go.Lib (itoa decDigits decDigits_one)
set_option linter.unusedVariables false
set_option linter.unusedSimpArgs false
def cA : Ch := ⟨0, 2, 1, 0, 0⟩
def cB : Ch := ⟨1, 0, 0, 0, -1⟩
def cD : Ch := ⟨0, 2, 0, 0, 0⟩
theorem aw_text : bytes (txR [cA, cB]) = ⟨#[48, 46, 50, 46, 48, 46, 49, 46, 48, 32, 49, 46, 48, 46, 45, 49, 46, 48, 46, 48]⟩ := by
  have h : mayL [cA, cB] = true := by decide
  unfold txR
  rw [if_pos h]
  simp [txtL, txS, chT, cA, cB, itoa, decDigits_one, bytes]
theorem aw_err : txE [cA, cB] = 0 := by
  have h : mayL [cA, cB] = true := by decide
  unfold txE
  rw [if_pos h]
theorem aw_text0 : bytes (txR []) = ⟨#[45]⟩ := rfl
theorem aw_err0 : txE [] = 0 := rfl
theorem aw_par : parL [48, 46, 50, 46, 48, 46, 49] = none := by decide
theorem aw_put : putL [cB] cA = some [cA, cB] := by decide
theorem aw_may : mayL [cB, cA] = false := by decide
theorem aw_ahead : ahQ [cA] [cA, cB] = true := by decide
theorem aw_agree : agL [cD] [cA, cB] = false := by decide
theorem fit_small {z : Int} (h : -1 ≤ z ∧ z ≤ 2) : Fit64 z := by unfold Fit64; omega
theorem okA : cA.ok := ⟨fit_small (by decide), fit_small (by decide), fit_small (by decide), fit_small (by decide), fit_small (by decide)⟩
theorem okB : cB.ok := ⟨fit_small (by decide), fit_small (by decide), fit_small (by decide), fit_small (by decide), fit_small (by decide)⟩
theorem okD : cD.ok := ⟨fit_small (by decide), fit_small (by decide), fit_small (by decide), fit_small (by decide), fit_small (by decide)⟩
/-- A slice that the call has built of choices. -/
theorem crow_new {w : World} {g : Nat} {l : List Ch} (h : Blk w g 31 (chs l).toArray) (hok : ∀ t ∈ l, t.ok) (hl : l.length ≤ maxLen) : CRow w (some ⟨g, 0, none⟩) l := by
  have ho : w.ownsRow 0 31 5 (.slice (some ⟨g, 0, none⟩) l.length l.length) l.length (chs l) :=
    ⟨chs_len l, .inr ⟨g, l.length, (chs l).toArray, rfl, Nat.zero_le _, h, Nat.le_refl _, hl, by simp [chs_len], by simp [← chs_len]⟩⟩
  obtain ⟨A, c, he, hr⟩ := own_crow ho (fun i hi => hok _ (List.getElem_mem hi)) hl
  injection he with he
  rw [he]
  exact hr
theorem rowAB {w : World} {g : Nat} (h : Blk w g 31 #[.int .i64 0, .int .i64 2, .int .i64 1, .int .i64 0, .int .i64 0, .int .i64 1, .int .i64 0, .int .i64 0, .int .i64 0, .int .i64 (-1)]) : CRow w (some ⟨g, 0, none⟩) [cA, cB] := crow_new h (fun t ht => by simp at ht; rcases ht with rfl | rfl <;> first | exact okA | exact okB | exact okD) (by unfold maxLen; decide)
theorem rowBA {w : World} {g : Nat} (h : Blk w g 31 #[.int .i64 1, .int .i64 0, .int .i64 0, .int .i64 0, .int .i64 (-1), .int .i64 0, .int .i64 2, .int .i64 1, .int .i64 0, .int .i64 0]) : CRow w (some ⟨g, 0, none⟩) [cB, cA] := crow_new h (fun t ht => by simp at ht; rcases ht with rfl | rfl <;> first | exact okA | exact okB | exact okD) (by unfold maxLen; decide)
theorem rowA {w : World} {g : Nat} (h : Blk w g 31 #[.int .i64 0, .int .i64 2, .int .i64 1, .int .i64 0, .int .i64 0]) : CRow w (some ⟨g, 0, none⟩) [cA] := crow_new h (fun t ht => by simp at ht; subst ht; first | exact okA | exact okB | exact okD) (by unfold maxLen; decide)
theorem rowB {w : World} {g : Nat} (h : Blk w g 31 #[.int .i64 1, .int .i64 0, .int .i64 0, .int .i64 0, .int .i64 (-1)]) : CRow w (some ⟨g, 0, none⟩) [cB] := crow_new h (fun t ht => by simp at ht; subst ht; first | exact okA | exact okB | exact okD) (by unfold maxLen; decide)
theorem rowD {w : World} {g : Nat} (h : Blk w g 31 #[.int .i64 0, .int .i64 2, .int .i64 0, .int .i64 0, .int .i64 0]) : CRow w (some ⟨g, 0, none⟩) [cD] := crow_new h (fun t ht => by simp at ht; subst ht; first | exact okA | exact okB | exact okD) (by unfold maxLen; decide)
theorem awT (w : World) (g : Nat) (h : Blk w g 31 #[.int .i64 0, .int .i64 2, .int .i64 1, .int .i64 0, .int .i64 0, .int .i64 1, .int .i64 0, .int .i64 0, .int .i64 0, .int .i64 (-1)]) (hp : Pow w) :
    Calls Tryd.prog 10 #[.slice (some ⟨g, 0, none⟩) 2 2] w fun e w' => e = .returned (.tuple #[.string ⟨#[48, 46, 50, 46, 48, 46, 49, 46, 48, 32, 49, 46, 48, 46, 45, 49, 46, 48, 46, 48]⟩, .int .i64 0]) ∧ Below w.heap.size w w' := by
  have t := Text_a (some ⟨g, 0, none⟩) 2 [cA, cB] w (rowAB h) (by simp) hp
  rw [aw_text, aw_err] at t
  exact t
theorem awT0 (w : World) (hp : Pow w) :
    Calls Tryd.prog 10 #[.slice none 0 0] w fun e w' => e = .returned (.tuple #[.string ⟨#[45]⟩, .int .i64 0]) ∧ Below w.heap.size w w' := by
  have t := Text_a none 0 [] w ⟨Nat.zero_le _, fun h => absurd h (Nat.lt_irrefl 0)⟩ (by simp) hp
  rw [aw_text0, aw_err0] at t
  exact t
theorem awPut (w : World) (g : Nat) (h : Blk w g 31 #[.int .i64 1, .int .i64 0, .int .i64 0, .int .i64 0, .int .i64 (-1)]) :
    Calls Tryd.prog 11 #[.slice (some ⟨g, 0, none⟩) 1 1, .agg #[.int .i64 0, .int .i64 2, .int .i64 1, .int .i64 0, .int .i64 0]] w fun e w' => ∃ P c, e = .returned (.tuple #[.slice P 2 c, .int .i64 0]) ∧ CRow w' P [cA, cB] ∧ Below w.heap.size w w' := by
  refine (Put_a (some ⟨g, 0, none⟩) 1 [cB] cA w (rowB h) (by simp)).mono fun e w' hh => ?_
  obtain ⟨h1, h2⟩ := hh
  unfold PutR at h1
  rw [aw_put] at h1
  obtain ⟨v, he, ho⟩ := h1
  obtain ⟨P, c, rfl, hr⟩ := own_crow ho (fun i hi => by
    match i, hi with
    | 0, _ => exact okA
    | 1, _ => exact okB) (by unfold maxLen; simp)
  exact ⟨P, c, he, hr, h2⟩
theorem awPar (w : World) (hp : Pow w) :
    Calls Tryd.prog 12 #[.string ⟨#[48, 46, 50, 46, 48, 46, 49]⟩] w fun e w' => e = .returned (.tuple #[.slice none 0 0, .int .i64 240]) ∧ Below w.heap.size w w' := by
  refine (Parse_a ⟨#[48, 46, 50, 46, 48, 46, 49]⟩ w (by decide) hp).mono fun e w' hh => ?_
  obtain ⟨h1, h2⟩ := hh
  unfold PaR at h1
  have e : (⟨#[48, 46, 50, 46, 48, 46, 49]⟩ : ByteArray).data.toList = [48, 46, 50, 46, 48, 46, 49] := rfl
  rw [e, aw_par] at h1
  exact ⟨h1, h2⟩
theorem awSame (w : World) (P : Option Addr) (c g : Nat) (hP : CRow w P [cA, cB]) (h : Blk w g 31 #[.int .i64 0, .int .i64 2, .int .i64 1, .int .i64 0, .int .i64 0, .int .i64 1, .int .i64 0, .int .i64 0, .int .i64 0, .int .i64 (-1)]) :
    Calls Tryd.prog 8 #[.slice P 2 c, .slice (some ⟨g, 0, none⟩) 2 2] w fun e w' => e = .returned (.bool true) ∧ Below w.heap.size w w' := by
  have t := same_b P (some ⟨g, 0, none⟩) c 2 [cA, cB] [cA, cB] w hP (rowAB h) (by simp) (by simp)
  rw [decide_eq_true rfl] at t
  exact t
theorem awMay (w : World) (g : Nat) (h : Blk w g 31 #[.int .i64 1, .int .i64 0, .int .i64 0, .int .i64 0, .int .i64 (-1), .int .i64 0, .int .i64 2, .int .i64 1, .int .i64 0, .int .i64 0]) :
    Calls Tryd.prog 5 #[.slice (some ⟨g, 0, none⟩) 2 2] w fun e w' => e = .returned (.bool false) ∧ Below w.heap.size w w' := by
  have t := May_a (some ⟨g, 0, none⟩) 2 [cB, cA] w (rowBA h) (by simp)
  rw [aw_may] at t
  exact t
theorem awAhead (w : World) (P : Option Addr) (c g : Nat) (hP : CRow w P [cA, cB]) (h : Blk w g 31 #[.int .i64 0, .int .i64 2, .int .i64 1, .int .i64 0, .int .i64 0]) :
    Calls Tryd.prog 13 #[.slice (some ⟨g, 0, none⟩) 1 1, .slice P 2 c] w fun e w' => e = .returned (.bool true) ∧ Below w.heap.size w w' := by
  have t := Ahead_a (some ⟨g, 0, none⟩) P 1 c [cA] [cA, cB] w (rowA h) hP (by simp) (by simp)
  rw [aw_ahead] at t
  exact t
theorem awAgree (w : World) (P : Option Addr) (c g : Nat) (hP : CRow w P [cA, cB]) (h : Blk w g 31 #[.int .i64 0, .int .i64 2, .int .i64 0, .int .i64 0, .int .i64 0]) :
    Calls Tryd.prog 7 #[.slice (some ⟨g, 0, none⟩) 1 1, .slice P 2 c] w fun e w' => e = .returned (.bool false) ∧ Below w.heap.size w w' := by
  have t := Agree_a (some ⟨g, 0, none⟩) P 1 c [cD] [cA, cB] w (rowD h) hP (by simp) (by simp)
  rw [aw_agree] at t
  exact t
set_option maxRecDepth 100000 in
set_option maxHeartbeats 8000000 in
theorem awake_a (w : World) (hp : Pow w) : Calls Tryd.prog 4 #[] w fun e w' => e = .returned (.bool true) ∧ Below w.heap.size w w' := by
  have HP := hide hp
  clear hp
  go_enter Tryd.func4, Tryd.ntmps4
  go_wp2_with fail
  have bA := ((Blk.new w 31 #[.int .i64 0, .int .i64 2, .int .i64 1, .int .i64 0, .int .i64 0]).alloc (.cells #[.int .i64 1, .int .i64 0, .int .i64 0, .int .i64 0, .int .i64 (-1)] 31)).alloc (.cells #[.int .i64 0, .int .i64 2, .int .i64 1, .int .i64 0, .int .i64 0, .int .i64 1, .int .i64 0, .int .i64 0, .int .i64 0, .int .i64 (-1)] 31)
  have bB := (Blk.new (w.alloc (.cells #[.int .i64 0, .int .i64 2, .int .i64 1, .int .i64 0, .int .i64 0] 31)) 31 #[.int .i64 1, .int .i64 0, .int .i64 0, .int .i64 0, .int .i64 (-1)]).alloc (.cells #[.int .i64 0, .int .i64 2, .int .i64 1, .int .i64 0, .int .i64 0, .int .i64 1, .int .i64 0, .int .i64 0, .int .i64 0, .int .i64 (-1)] 31)
  have bS := Blk.new ((w.alloc (.cells #[.int .i64 0, .int .i64 2, .int .i64 1, .int .i64 0, .int .i64 0] 31)).alloc (.cells #[.int .i64 1, .int .i64 0, .int .i64 0, .int .i64 0, .int .i64 (-1)] 31)) 31 #[.int .i64 0, .int .i64 2, .int .i64 1, .int .i64 0, .int .i64 0, .int .i64 1, .int .i64 0, .int .i64 0, .int .i64 0, .int .i64 (-1)]
  rw [show (w.alloc (.cells #[.int .i64 0, .int .i64 2, .int .i64 1, .int .i64 0, .int .i64 0] 31)).heap.size = w.heap.size + 1 by simp] at bB
  rw [show ((w.alloc (.cells #[.int .i64 0, .int .i64 2, .int .i64 1, .int .i64 0, .int .i64 0] 31)).alloc (.cells #[.int .i64 1, .int .i64 0, .int .i64 0, .int .i64 0, .int .i64 (-1)] 31)).heap.size = w.heap.size + 1 + 1 by simp] at bS
  have hb := (((Below.refl w.heap.size w).alloc (Nat.le_refl _) (.cells #[.int .i64 0, .int .i64 2, .int .i64 1, .int .i64 0, .int .i64 0] 31)).alloc (by simp) (.cells #[.int .i64 1, .int .i64 0, .int .i64 0, .int .i64 0, .int .i64 (-1)] 31)).alloc (by simp; omega) (.cells #[.int .i64 0, .int .i64 2, .int .i64 1, .int .i64 0, .int .i64 0, .int .i64 1, .int .i64 0, .int .i64 0, .int .i64 0, .int .i64 (-1)] 31)
  generalize (((w.alloc (.cells #[.int .i64 0, .int .i64 2, .int .i64 1, .int .i64 0, .int .i64 0] 31)).alloc (.cells #[.int .i64 1, .int .i64 0, .int .i64 0, .int .i64 0, .int .i64 (-1)] 31)).alloc (.cells #[.int .i64 0, .int .i64 2, .int .i64 1, .int .i64 0, .int .i64 0, .int .i64 1, .int .i64 0, .int .i64 0, .int .i64 0, .int .i64 (-1)] 31)) = W1 at *
  have BA := hide bA
  have BB := hide bB
  have HB := hide hb
  have BS := hide bS
  clear bA bB hb bS
  refine (awT W1 _ BS.out (HP.out.below HB.out (Nat.le_refl _))).mono ?_
  rintro e w1 ⟨rfl, hb1⟩
  have BA1 := hide (BA.out.below hb1 BA.out.lt)
  have BB1 := hide (BB.out.below hb1 BB.out.lt)
  have HB1 := hide (HB.out.trans (hb1.mono HB.out.size))
  clear hb1
  go_wp2_with fail
  refine (awT0 w1 (HP.out.below HB1.out (Nat.le_refl _))).mono ?_
  rintro e w2 ⟨rfl, hb2⟩
  have BA2 := hide (BA1.out.below hb2 BA1.out.lt)
  have BB2 := hide (BB1.out.below hb2 BB1.out.lt)
  have HB2 := hide (HB1.out.trans (hb2.mono HB1.out.size))
  clear hb2
  have q0 := BA2.out.cell 0
  have q1 := BA2.out.cell 1
  have q2 := BA2.out.cell 2
  have q3 := BA2.out.cell 3
  have q4 := BA2.out.cell 4
  have r0 := BB2.out.cell 0
  have r1 := BB2.out.cell 1
  have r2 := BB2.out.cell 2
  have r3 := BB2.out.cell 3
  have r4 := BB2.out.cell 4
  simp only [List.getElem?_toArray, List.getElem?_cons_zero, List.getElem?_cons_succ] at q0 q1 q2 q3 q4 r0 r1 r2 r3 r4
  have hsA := BA2.out.lt
  have hsB := BB2.out.lt
  go_wp2_with fail
  refine (awPut _ _ (Blk.new w2 _ _)).mono ?_
  rintro e w3 ⟨P, c, rfl, hP, hb3⟩
  clear q0 q1 q2 q3 q4 r0 r1 r2 r3 r4 hsA hsB
  have hx3 := ((Below.refl _ w2).alloc (Nat.le_refl _) (.cells #[.int .i64 1, .int .i64 0, .int .i64 0, .int .i64 0, .int .i64 (-1)] 31)).trans (hb3.mono (by simp))
  have BA3 := hide (BA2.out.below hx3 BA2.out.lt)
  have BB3 := hide (BB2.out.below hx3 BB2.out.lt)
  have HB3 := hide (HB2.out.trans (hx3.mono HB2.out.size))
  have RP3 := hide hP
  clear hP hb3 hx3
  go_wp2_with fail
  refine (awPar w3 (HP.out.below HB3.out (Nat.le_refl _))).mono ?_
  rintro e w4 ⟨rfl, hb4⟩
  have RP4 := hide (RP3.out.below hb4)
  have BA4 := hide (BA3.out.below hb4 BA3.out.lt)
  have BB4 := hide (BB3.out.below hb4 BB3.out.lt)
  have HB4 := hide (HB3.out.trans (hb4.mono HB3.out.size))
  clear hb4
  have q0 := BA4.out.cell 0
  have q1 := BA4.out.cell 1
  have q2 := BA4.out.cell 2
  have q3 := BA4.out.cell 3
  have q4 := BA4.out.cell 4
  have r0 := BB4.out.cell 0
  have r1 := BB4.out.cell 1
  have r2 := BB4.out.cell 2
  have r3 := BB4.out.cell 3
  have r4 := BB4.out.cell 4
  simp only [List.getElem?_toArray, List.getElem?_cons_zero, List.getElem?_cons_succ] at q0 q1 q2 q3 q4 r0 r1 r2 r3 r4
  have hsA := BA4.out.lt
  have hsB := BB4.out.lt
  go_wp2_with fail
  refine (awSame _ P c _ (RP4.out.below ((Below.refl _ w4).alloc (Nat.le_refl _) _)) (Blk.new w4 _ _)).mono ?_
  rintro e w5 ⟨rfl, hb5⟩
  clear q0 q1 q2 q3 q4 r0 r1 r2 r3 r4 hsA hsB
  have hx5 := ((Below.refl _ w4).alloc (Nat.le_refl _) (.cells #[.int .i64 0, .int .i64 2, .int .i64 1, .int .i64 0, .int .i64 0, .int .i64 1, .int .i64 0, .int .i64 0, .int .i64 0, .int .i64 (-1)] 31)).trans (hb5.mono (by simp))
  have BA5 := hide (BA4.out.below hx5 BA4.out.lt)
  have BB5 := hide (BB4.out.below hx5 BB4.out.lt)
  have HB5 := hide (HB4.out.trans (hx5.mono HB4.out.size))
  have RP5 := hide (RP4.out.below hx5)
  clear hb5 hx5
  have q0 := BA5.out.cell 0
  have q1 := BA5.out.cell 1
  have q2 := BA5.out.cell 2
  have q3 := BA5.out.cell 3
  have q4 := BA5.out.cell 4
  have r0 := BB5.out.cell 0
  have r1 := BB5.out.cell 1
  have r2 := BB5.out.cell 2
  have r3 := BB5.out.cell 3
  have r4 := BB5.out.cell 4
  simp only [List.getElem?_toArray, List.getElem?_cons_zero, List.getElem?_cons_succ] at q0 q1 q2 q3 q4 r0 r1 r2 r3 r4
  have hsA := BA5.out.lt
  have hsB := BB5.out.lt
  go_wp2_with fail
  refine (awMay _ _ (Blk.new w5 _ _)).mono ?_
  rintro e w6 ⟨rfl, hb6⟩
  clear q0 q1 q2 q3 q4 r0 r1 r2 r3 r4 hsA hsB
  have hx6 := ((Below.refl _ w5).alloc (Nat.le_refl _) (.cells #[.int .i64 1, .int .i64 0, .int .i64 0, .int .i64 0, .int .i64 (-1), .int .i64 0, .int .i64 2, .int .i64 1, .int .i64 0, .int .i64 0] 31)).trans (hb6.mono (by simp))
  have BA6 := hide (BA5.out.below hx6 BA5.out.lt)
  have BB6 := hide (BB5.out.below hx6 BB5.out.lt)
  have HB6 := hide (HB5.out.trans (hx6.mono HB5.out.size))
  have RP6 := hide (RP5.out.below hx6)
  clear hb6 hx6
  have q0 := BA6.out.cell 0
  have q1 := BA6.out.cell 1
  have q2 := BA6.out.cell 2
  have q3 := BA6.out.cell 3
  have q4 := BA6.out.cell 4
  have r0 := BB6.out.cell 0
  have r1 := BB6.out.cell 1
  have r2 := BB6.out.cell 2
  have r3 := BB6.out.cell 3
  have r4 := BB6.out.cell 4
  simp only [List.getElem?_toArray, List.getElem?_cons_zero, List.getElem?_cons_succ] at q0 q1 q2 q3 q4 r0 r1 r2 r3 r4
  have hsA := BA6.out.lt
  have hsB := BB6.out.lt
  go_wp2_with fail
  refine (awAhead _ P c _ (RP6.out.below ((Below.refl _ w6).alloc (Nat.le_refl _) _)) (Blk.new w6 _ _)).mono ?_
  rintro e w7 ⟨rfl, hb7⟩
  clear q0 q1 q2 q3 q4 r0 r1 r2 r3 r4 hsA hsB
  have hx7 := ((Below.refl _ w6).alloc (Nat.le_refl _) (.cells #[.int .i64 0, .int .i64 2, .int .i64 1, .int .i64 0, .int .i64 0] 31)).trans (hb7.mono (by simp))
  have BA7 := hide (BA6.out.below hx7 BA6.out.lt)
  have BB7 := hide (BB6.out.below hx7 BB6.out.lt)
  have HB7 := hide (HB6.out.trans (hx7.mono HB6.out.size))
  have RP7 := hide (RP6.out.below hx7)
  clear hb7 hx7
  have q0 := BA7.out.cell 0
  have q1 := BA7.out.cell 1
  have q2 := BA7.out.cell 2
  have q3 := BA7.out.cell 3
  have q4 := BA7.out.cell 4
  have r0 := BB7.out.cell 0
  have r1 := BB7.out.cell 1
  have r2 := BB7.out.cell 2
  have r3 := BB7.out.cell 3
  have r4 := BB7.out.cell 4
  simp only [List.getElem?_toArray, List.getElem?_cons_zero, List.getElem?_cons_succ] at q0 q1 q2 q3 q4 r0 r1 r2 r3 r4
  have hsA := BA7.out.lt
  have hsB := BB7.out.lt
  go_wp2_with fail
  refine (awAgree _ P c _ (RP7.out.below ((Below.refl _ w7).alloc (Nat.le_refl _) _)) (Blk.new w7 _ _)).mono ?_
  rintro e w8 ⟨rfl, hb8⟩
  clear q0 q1 q2 q3 q4 r0 r1 r2 r3 r4 hsA hsB
  have hx8 := ((Below.refl _ w7).alloc (Nat.le_refl _) (.cells #[.int .i64 0, .int .i64 2, .int .i64 0, .int .i64 0, .int .i64 0] 31)).trans (hb8.mono (by simp))
  have BA8 := hide (BA7.out.below hx8 BA7.out.lt)
  have BB8 := hide (BB7.out.below hx8 BB7.out.lt)
  have HB8 := hide (HB7.out.trans (hx8.mono HB7.out.size))
  have RP8 := hide (RP7.out.below hx8)
  clear hb8 hx8
  have q0 := BA8.out.cell 0
  have q1 := BA8.out.cell 1
  have q2 := BA8.out.cell 2
  have q3 := BA8.out.cell 3
  have q4 := BA8.out.cell 4
  have r0 := BB8.out.cell 0
  have r1 := BB8.out.cell 1
  have r2 := BB8.out.cell 2
  have r3 := BB8.out.cell 3
  have r4 := BB8.out.cell 4
  simp only [List.getElem?_toArray, List.getElem?_cons_zero, List.getElem?_cons_succ] at q0 q1 q2 q3 q4 r0 r1 r2 r3 r4
  have hsA := BA8.out.lt
  have hsB := BB8.out.lt
  clear q0 q1 q2 q3 q4 r0 r1 r2 r3 r4 hsA hsB
  go_wp2_with fail
  go_ret
  exact ⟨rfl, HB8.out⟩
end Go.Proofs.YtnmaclpjddafnaaDoor
