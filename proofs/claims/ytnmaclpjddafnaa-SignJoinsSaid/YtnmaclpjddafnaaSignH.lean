/- Whether rows agree, whether one is within another: the program's answers. -/
import Derived.Test.YtnmaclpjddafnaaRows
import Derived.Test.YtnmaclpjddafnaaSignG
namespace Go.Proofs.Ytnmaclpjddafnaa
open Go.RowKit
set_option linter.unusedVariables false
set_option linter.unusedSimpArgs false
theorem idx_any (p : Ch → Bool) (l : List Ch) : decide (0 ≤ idxI p l) = l.any p := by
  rcases idx_find p l with ⟨h1, h2⟩ | ⟨i, hi, h1, h2⟩
  · rw [h1]
    rw [List.find?_eq_none] at h2
    have : l.any p = false := by
      rw [List.any_eq_false]
      exact h2
    rw [this]
    rfl
  · have : l.any p = true := by
      rw [List.any_eq_true]
      exact ⟨l[i], List.getElem_mem hi, List.find?_some h2⟩
    rw [this, h1]
    simp
def agL (a b : List Ch) : Bool := mayL a && mayL b && !a.any (agB b)
def wiL (a b : List Ch) : Bool := mayL a && mayL b && !a.any (wiB b)
set_option maxRecDepth 100000 in
set_option maxHeartbeats 2000000 in
theorem Agree_a (A B : Option Addr) (ca cb : Nat) (a b : List Ch) (w : World) (ha : CRow w A a) (hb : CRow w B b) (hla : a.length ≤ 1000) (hlb : b.length ≤ 1000) :
    Calls Try.prog 14 #[.slice A a.length ca, .slice B b.length cb] w fun e w' => e = .returned (.bool (agL a b)) ∧ Below w.heap.size w w' := by
  have MA := hide fun (w' : World) (h : Below w.heap.size w w') => May_a A ca a w' (ha.below h) hla
  have MB := hide fun (w' : World) (h : Below w.heap.size w w') => May_a B cb b w' (hb.below h) hlb
  have HA := hide ha
  have HB := hide hb
  have hb1 := (Below.refl w.heap.size w).alloc (Nat.le_refl _) (.cells #[.slice B b.length cb] 22)
  have bk := (Blk.new w 22 #[.slice B b.length cb]).cell 0
  simp only [List.getElem?_toArray, List.getElem?_cons_zero] at bk
  have hs1 : w.heap.size < (w.alloc (.cells #[.slice B b.length cb] 22)).heap.size := by simp
  clear ha hb
  rcases hma : mayL a with _ | _
  · have E : Hid (agL a b = false) := hide (by unfold agL; rw [hma]; rfl)
    rw [hma] at MA
    clear hma
    go_enter Try.func14, Try.ntmps14
    go_wp2_with fail
    generalize w.alloc (.cells #[.slice B b.length cb] 22) = W1 at *
    refine (MA.out W1 hb1).mono ?_
    rintro e w2 ⟨rfl, hb2⟩
    have HB2 := hide (hb1.trans (hb2.mono hb1.size))
    clear hb2 hb1 bk
    go_wp2_with fail
    go_ret
    exact ⟨by rw [E.out]; rfl, HB2.out⟩
  rcases hmb : mayL b with _ | _
  · have E : Hid (agL a b = false) := hide (by unfold agL; rw [hma, hmb]; rfl)
    rw [hma] at MA
    rw [hmb] at MB
    clear hma hmb
    go_enter Try.func14, Try.ntmps14
    go_wp2_with fail
    generalize w.alloc (.cells #[.slice B b.length cb] 22) = W1 at *
    refine (MA.out W1 hb1).mono ?_
    rintro e w2 ⟨rfl, hb2⟩
    have HB2 := hide (hb1.trans (hb2.mono hb1.size))
    have c2 := (hb2.cell (p := ⟨w.heap.size, 0, none⟩) hs1).trans bk
    clear hb2 hb1 bk
    go_wp2_with fail
    refine (MB.out w2 HB2.out).mono ?_
    rintro e w3 ⟨rfl, hb3⟩
    have HB3 := hide (HB2.out.trans (hb3.mono HB2.out.size))
    clear hb3
    go_wp2_with fail
    go_ret
    exact ⟨by rw [E.out]; rfl, HB3.out⟩
  have E : Hid (agL a b = !decide (0 ≤ idxI (agB b) a)) := hide (by unfold agL; rw [hma, hmb, idx_any]; rfl)
  have HMB := hide hmb
  rw [hma] at MA
  rw [hmb] at MB
  clear hma hmb
  go_enter Try.func14, Try.ntmps14
  go_wp2_with fail
  generalize w.alloc (.cells #[.slice B b.length cb] 22) = W1 at *
  refine (MA.out W1 hb1).mono ?_
  rintro e w2 ⟨rfl, hb2⟩
  have HB2 := hide (hb1.trans (hb2.mono hb1.size))
  have c2 := (hb2.cell (p := ⟨w.heap.size, 0, none⟩) hs1).trans bk
  have hs2 := Nat.lt_of_lt_of_le hs1 hb2.size
  clear hb2 hb1 bk
  go_wp2_with fail
  refine (MB.out w2 HB2.out).mono ?_
  rintro e w3 ⟨rfl, hb3⟩
  have HB3 := hide (HB2.out.trans (hb3.mono HB2.out.size))
  have c3 := hide ((hb3.cell (p := ⟨w.heap.size, 0, none⟩) hs2).trans c2)
  have hs3 := Nat.lt_of_lt_of_le hs2 hb3.size
  clear hb3 c2
  go_wp2_with fail
  refine (contains_ag A ca a ⟨w.heap.size, 0, none⟩ (agB b) w3 (HA.out.below HB3.out) hla (fun x w' _ h => agree1_a w.heap.size B cb b x w' ((h.cell (p := ⟨w.heap.size, 0, none⟩) hs3).trans c3.out) (Nat.lt_of_lt_of_le hs3 h.size) ((HB.out.below HB3.out).below h) hlb HMB.out)).mono ?_
  rintro e w4 ⟨rfl, hb4⟩
  have HB4 := hide (HB3.out.trans (hb4.mono HB3.out.size))
  clear hb4 HMB
  generalize idxI (agB b) a = z at *
  go_wp2_with fail
  go_ret
  exact ⟨by rw [E.out]; rfl, HB4.out⟩
end Go.Proofs.Ytnmaclpjddafnaa
