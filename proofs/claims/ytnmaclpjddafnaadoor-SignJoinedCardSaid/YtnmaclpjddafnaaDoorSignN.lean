/- Which of two rows goes first: the program's answer; a choice as a row of numbers, in the reference. -/
import Derived.Test.YtnmaclpjddafnaaDoorRows
import Derived.Test.YtnmaclpjddafnaaDoorSignM
namespace Go.Proofs.YtnmaclpjddafnaaDoor
open Go.RowKit
set_option linter.unusedVariables false
set_option linter.unusedSimpArgs false
def ahQ (a b : List Ch) : Bool := mayL a && (mayL b && decide (cmpL a b < 0))
set_option maxRecDepth 100000 in
set_option maxHeartbeats 2000000 in
theorem Ahead_a (A B : Option Addr) (ca cb : Nat) (a b : List Ch) (w : World) (ha : CRow w A a) (hb : CRow w B b) (hla : a.length ≤ 1000) (hlb : b.length ≤ 1000) :
    Calls Tryd.prog 13 #[.slice A a.length ca, .slice B b.length cb] w fun e w' => e = .returned (.bool (ahQ a b)) ∧ Below w.heap.size w w' := by
  have MA := hide (May_a A ca a w ha hla)
  have MB := hide fun (w' : World) (h : Below w.heap.size w w') => May_a B cb b w' (hb.below h) hlb
  have RW := hide fun (w' : World) (h : Below w.heap.size w w') => rows_a A B ca cb a b w' (ha.below h) (hb.below h) hla hlb
  clear ha hb
  rcases hma : mayL a with _ | _
  · have E : Hid (ahQ a b = false) := hide (by unfold ahQ; rw [hma]; rfl)
    rw [hma] at MA
    clear hma
    go_enter Tryd.func13, Tryd.ntmps13
    go_wp2_with fail
    refine MA.out.mono ?_
    rintro e w1 ⟨rfl, hb1⟩
    have HB1 := hide hb1
    clear hb1
    go_wp2_with fail
    go_ret
    exact ⟨by rw [E.out]; rfl, HB1.out⟩
  rcases hmb : mayL b with _ | _
  · have E : Hid (ahQ a b = false) := hide (by unfold ahQ; rw [hma, hmb]; rfl)
    rw [hma] at MA
    rw [hmb] at MB
    clear hma hmb
    go_enter Tryd.func13, Tryd.ntmps13
    go_wp2_with fail
    refine MA.out.mono ?_
    rintro e w1 ⟨rfl, hb1⟩
    have HB1 := hide hb1
    clear hb1
    go_wp2_with fail
    refine (MB.out _ HB1.out).mono ?_
    rintro e w2 ⟨rfl, hb2⟩
    have HB2 := hide (HB1.out.trans (hb2.mono HB1.out.size))
    clear hb2
    go_wp2_with fail
    go_ret
    exact ⟨by rw [E.out]; rfl, HB2.out⟩
  have E : Hid (ahQ a b = decide (cmpL a b < 0)) := hide (by unfold ahQ; rw [hma, hmb]; rfl)
  rw [hma] at MA
  rw [hmb] at MB
  clear hma hmb
  generalize cmpL a b = z at *
  go_enter Tryd.func13, Tryd.ntmps13
  go_wp2_with fail
  refine MA.out.mono ?_
  rintro e w1 ⟨rfl, hb1⟩
  have HB1 := hide hb1
  clear hb1
  go_wp2_with fail
  refine (MB.out _ HB1.out).mono ?_
  rintro e w2 ⟨rfl, hb2⟩
  have HB2 := hide (HB1.out.trans (hb2.mono HB1.out.size))
  clear hb2
  go_wp2_with fail
  refine (RW.out _ HB2.out).mono ?_
  rintro e w3 ⟨rfl, hb3⟩
  have HB3 := hide (HB2.out.trans (hb3.mono HB2.out.size))
  clear hb3
  go_wp2_with fail
  go_ret
  exact ⟨by rw [E.out]; rfl, HB3.out⟩
/-- A choice's numbers, as they count. -/
def rowG (x : Ch) : Nat → Int
  | 0 => x.r
  | 1 => x.c
  | 2 => x.v
  | 3 => x.f
  | _ => x.s
def RowAt (w : World) (g : Nat) (x : Ch) : Prop := g < w.heap.size ∧ ∀ j, j < 5 → w.cell? ⟨g, j, none⟩ = some (.int .i64 (rowG x j))
theorem RowAt.below {w w' : World} {g : Nat} {x : Ch} (h : RowAt w g x) (hb : Below w.heap.size w w') : RowAt w' g x :=
  ⟨Nat.lt_of_lt_of_le h.1 hb.size, fun j hj => (hb.cell (p := ⟨g, j, none⟩) h.1).trans (h.2 j hj)⟩
theorem cmpI_zero (a b : Int) : cmpI a b = 0 ↔ a = b := by
  unfold cmpI
  repeat' split
  all_goals omega
theorem cmpI_neg (a b : Int) : cmpI a b < 0 ↔ a < b := by
  unfold cmpI
  repeat' split
  all_goals omega
theorem or_skip {z : Int} (l : List Int) (h : z = 0) : orL (z :: l) = orL l := by rw [orL, if_pos h]
theorem or_take {z : Int} (l : List Int) (h : ¬ z = 0) : orL (z :: l) = z := by rw [orL, if_neg h]
theorem pt_skip {x y : Ch} (h : x.r = y.r) : ptC x y = cmpI x.c y.c := by unfold ptC; rw [if_pos ((cmpI_zero _ _).2 h)]
theorem pt_take {x y : Ch} (h : ¬ x.r = y.r) : ptC x y = cmpI x.r y.r := by unfold ptC; rw [if_neg (fun e => h ((cmpI_zero _ _).1 e))]
theorem fit_at {z a b : Int} (h : z = cmpI a b) (hn : ¬ a = b) : ¬ z = 0 ∧ decide (z < 0) = decide (a < b) := by
  subst h
  exact ⟨fun e => hn ((cmpI_zero _ _).1 e), decide_eq_decide.2 (cmpI_neg _ _)⟩
theorem ah_zero {x y : Ch} (h : ∀ j, j < 5 → rowG x j = rowG y j) : ahC x y = 0 := by
  have h0 : x.r = y.r := h 0 (by omega)
  have h1 : x.c = y.c := h 1 (by omega)
  have h2 : x.v = y.v := h 2 (by omega)
  have h3 : x.f = y.f := h 3 (by omega)
  have h4 : x.s = y.s := h 4 (by omega)
  unfold ahC
  rw [pt_skip h0, or_skip _ ((cmpI_zero _ _).2 h1), or_skip _ ((cmpI_zero _ _).2 h2), or_skip _ ((cmpI_zero _ _).2 h3), or_skip _ ((cmpI_zero _ _).2 h4)]
  rfl
theorem ah_at {x y : Ch} {k : Nat} (hk : k < 5) (h : ∀ j, j < k → rowG x j = rowG y j) (hn : ¬ rowG x k = rowG y k) : ¬ ahC x y = 0 ∧ decide (ahC x y < 0) = decide (rowG x k < rowG y k) := by
  have h0 : 0 < k → x.r = y.r := h 0
  have h1 : 1 < k → x.c = y.c := h 1
  have h2 : 2 < k → x.v = y.v := h 2
  have h3 : 3 < k → x.f = y.f := h 3
  clear h
  refine fit_at ?_ hn
  unfold ahC
  match k, hk with
  | 0, _ => exact (or_take _ (by rw [pt_take hn]; exact fun e => hn ((cmpI_zero _ _).1 e))).trans (pt_take hn)
  | 1, _ =>
    have e0 := h0 (by omega)
    rw [pt_skip e0]
    exact or_take _ (fun e => hn ((cmpI_zero _ _).1 e))
  | 2, _ =>
    have e0 := h0 (by omega)
    have e1 := h1 (by omega)
    rw [pt_skip e0, or_skip _ ((cmpI_zero _ _).2 e1)]
    exact or_take _ (fun e => hn ((cmpI_zero _ _).1 e))
  | 3, _ =>
    have e0 := h0 (by omega)
    have e1 := h1 (by omega)
    have e2 := h2 (by omega)
    rw [pt_skip e0, or_skip _ ((cmpI_zero _ _).2 e1), or_skip _ ((cmpI_zero _ _).2 e2)]
    exact or_take _ (fun e => hn ((cmpI_zero _ _).1 e))
  | 4, _ =>
    have e0 := h0 (by omega)
    have e1 := h1 (by omega)
    have e2 := h2 (by omega)
    have e3 := h3 (by omega)
    rw [pt_skip e0, or_skip _ ((cmpI_zero _ _).2 e1), or_skip _ ((cmpI_zero _ _).2 e2), or_skip _ ((cmpI_zero _ _).2 e3)]
    exact or_take _ (fun e => hn ((cmpI_zero _ _).1 e))
end Go.Proofs.YtnmaclpjddafnaaDoor
