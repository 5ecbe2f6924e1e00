/- The walk of the statement SignTexts. -/
import Derived.Test.YtdojmjbknkbpoaaDoorRows
import Derived.Test.YtdojmjbknkbpoaaDoorSignRow
import Derived.Test.YtdojmjbknkbpoaaDoorSignPb
namespace Go.Proofs.YtdojmjbknkbpoaaDoor.SignTextsW
open Go.Joins Go.ChangeShapes Go.WideShapes Go.RowKit Go.Deep Go.Proofs.YtdojmjbknkbpoaaDoor
set_option linter.unusedVariables false
set_option linter.unusedSimpArgs false
theorem par_lenT {s : List UInt8} {l : List Ch} (h : parL s = some l) : l.length ≤ s.length + 1 := by
  unfold parL at h
  split at h
  · cases h; simp
  · split at h
    · rename_i l' hr
      split at h
      · cases h
        unfold readL at hr
        split at hr
        · rename_i q hq
          cases hr
          have := read_len hq
          simpa using this
        · cases hr
      · cases h
    · cases h
set_option maxRecDepth 100000 in
set_option maxHeartbeats 8000000 in
theorem walk {H : Type} {enc : TypeId × Value → H} {base : Nat} (W : World) (hp : Pow W) (v0 : Value) (d0 : DataW H) (p0 : List MemPlace) (o0 : Value.okWide Tryd.prog W .any base 22 v0) (r0 : DataW.Trod enc Tryd.prog W 0 (fun _ => true) true 22 v0 d0 p0) (s : ByteArray) (ws : s.size ≤ maxLen) :
    Calls Tryd.prog 3 #[v0, .string s] W fun e w' => e = .returned (.bool true) ∧ Below W.heap.size W w' := by
  obtain ⟨A, l, c, rfl, hr, _, _⟩ := own_rowC o0 r0
  clear o0 r0 ws
  by_cases hl : l.length ≤ 200
  rotate_left
  · have gI : (200 : Int) < (l.length : Int) := by omega
    clear hr hp
    go_enter Tryd.func3, Tryd.ntmps3
    go_wp2_with fail
    go_ret
    exact ⟨rfl, Below.refl _ _⟩
  have gl : ¬ (200 : Int) < (l.length : Int) := by omega
  by_cases hs : s.size ≤ 5000
  rotate_left
  · have gI : (5000 : Int) < (s.size : Int) := by omega
    clear hr hp
    go_enter Tryd.func3, Tryd.ntmps3
    go_wp2_with fail
    go_ret
    exact ⟨rfl, Below.refl _ _⟩
  have gs : ¬ (5000 : Int) < (s.size : Int) := by omega
  have TA := hide fun (w' : World) (h : Below W.heap.size W w') => Text_a A c l w' (hr.below h) (by omega) (hp.below h (Nat.le_refl _))
  have TB := hide fun (w' : World) (h : Below W.heap.size W w') => Text_b A c l w' (hr.below h) (by omega)
  have PA := hide fun (w' : World) (h : Below W.heap.size W w') => Parse_a s w' (by omega) (hp.below h (Nat.le_refl _))
  have PB := hide fun (w' : World) (_ : Below W.heap.size W w') => Parse_b s w' (by omega)
  have hq2 := par_same s.data.toList
  generalize bytes (txR l) = X at *
  have hze : txE l = 0 ∨ txE l = 2 := by unfold txE; split <;> simp
  have HZE := hide hze
  generalize txE l = ze at *
  clear hr hp hze
  cases hq : parL s.data.toList with
  | none =>
    have PN : Hid (∀ (w' : World), Below W.heap.size W w' → Calls Tryd.prog 10 #[.string s] w' fun e w'' => e = .returned (.tuple #[.slice none 0 0, .int .i64 240]) ∧ Below w'.heap.size w' w'') := hide fun w' h => (PA.out w' h).mono fun e w'' hh => ⟨by have h1 := hh.1; unfold PaR at h1; rw [hq] at h1; exact h1, hh.2⟩
    have PM : Hid (∀ (w' : World), Below W.heap.size W w' → Calls Tryd.prog 11 #[.string s] w' fun e w'' => e = .returned (.tuple #[.slice none 0 0, .int .i64 240]) ∧ Below w'.heap.size w' w'') := hide fun w' h => (PB.out w' h).mono fun e w'' hh => ⟨by have h1 := hh.1; unfold PbR at h1; rw [hq2, hq] at h1; exact h1, hh.2⟩
    have SM : Hid (∀ (w' : World), Calls Tryd.prog 12 #[.slice none 0 0, .slice none 0 0] w' fun e w'' => e = .returned (.bool true) ∧ Below w'.heap.size w' w'') := hide fun w' => by
      have t := same_b none none 0 0 [] [] w' ⟨Nat.zero_le _, fun h => absurd h (Nat.lt_irrefl 0)⟩ ⟨Nat.zero_le _, fun h => absurd h (Nat.lt_irrefl 0)⟩ (by simp) (by simp)
      rw [decide_eq_true rfl] at t
      exact t
    clear hq hq2 PA PB
    go_enter Tryd.func3, Tryd.ntmps3
    go_wp2_with fail
    refine (TA.out W (Below.refl _ _)).mono ?_
    rintro e w1 ⟨rfl, hb1⟩
    have HB1 := hide hb1
    clear hb1
    go_wp2_with fail
    refine (TB.out w1 HB1.out).mono ?_
    rintro e w2 ⟨rfl, hb2⟩
    have HB2 := hide (HB1.out.trans (hb2.mono HB1.out.size))
    clear hb2
    go_wp2_with fail
    refine (PN.out w2 HB2.out).mono ?_
    rintro e w3 ⟨rfl, hb3⟩
    have HB3 := hide (HB2.out.trans (hb3.mono HB2.out.size))
    clear hb3
    go_wp2_with fail
    refine (PM.out w3 HB3.out).mono ?_
    rintro e w4 ⟨rfl, hb4⟩
    have HB4 := hide (HB3.out.trans (hb4.mono HB3.out.size))
    clear hb4
    have hz := HZE.out
    rcases hz with rfl | rfl
    all_goals
      go_wp2_with fail
      refine (SM.out w4).mono ?_
      rintro e w5 ⟨rfl, hb5⟩
      have HB5 := hide (HB4.out.trans (hb5.mono HB4.out.size))
      clear hb5
      go_wp2_with fail
      go_ret
      exact ⟨rfl, HB5.out⟩
  | some m =>
    have hml : m.length ≤ 6000 := by
      have := par_lenT hq
      have h9 : s.data.toList.length = s.size := by simp
      omega
    have PN : Hid (∀ (w' : World), Below W.heap.size W w' → Calls Tryd.prog 10 #[.string s] w' fun e w'' => (∃ A1 c1, e = .returned (.tuple #[.slice A1 m.length c1, .int .i64 0]) ∧ CRow w'' A1 m) ∧ Below w'.heap.size w' w'') := hide fun w' h => (PA.out w' h).mono fun e w'' hh => ⟨by have h1 := hh.1; unfold PaR at h1; rw [hq] at h1; exact h1, hh.2⟩
    have PM : Hid (∀ (w' : World), Below W.heap.size W w' → Calls Tryd.prog 11 #[.string s] w' fun e w'' => (∃ A2 c2, e = .returned (.tuple #[.slice A2 m.length c2, .int .i64 0]) ∧ CRow w'' A2 m) ∧ Below w'.heap.size w' w'') := hide fun w' h => (PB.out w' h).mono fun e w'' hh => ⟨by have h1 := hh.1; unfold PbR at h1; rw [hq2, hq] at h1; exact h1, hh.2⟩
    have SM : Hid (∀ A1 c1 A2 c2 (w' : World), CRow w' A1 m → CRow w' A2 m → Calls Tryd.prog 12 #[.slice A1 m.length c1, .slice A2 m.length c2] w' fun e w'' => e = .returned (.bool true) ∧ Below w'.heap.size w' w'') := hide fun A1 c1 A2 c2 w' h1 h2 => by
      have t := same_b A1 A2 c1 c2 m m w' h1 h2 (by omega) (by omega)
      rw [decide_eq_true rfl] at t
      exact t
    clear hq hq2 PA PB hml
    go_enter Tryd.func3, Tryd.ntmps3
    go_wp2_with fail
    refine (TA.out W (Below.refl _ _)).mono ?_
    rintro e w1 ⟨rfl, hb1⟩
    have HB1 := hide hb1
    clear hb1
    go_wp2_with fail
    refine (TB.out w1 HB1.out).mono ?_
    rintro e w2 ⟨rfl, hb2⟩
    have HB2 := hide (HB1.out.trans (hb2.mono HB1.out.size))
    clear hb2
    go_wp2_with fail
    refine (PN.out w2 HB2.out).mono ?_
    rintro e w3 ⟨⟨A1, c1, rfl, hr1⟩, hb3⟩
    have HB3 := hide (HB2.out.trans (hb3.mono HB2.out.size))
    have HR1 := hide hr1
    clear hb3 hr1
    go_wp2_with fail
    refine (PM.out w3 HB3.out).mono ?_
    rintro e w4 ⟨⟨A2, c2, rfl, hr2⟩, hb4⟩
    have HB4 := hide (HB3.out.trans (hb4.mono HB3.out.size))
    have HR3 := hide (HR1.out.below hb4)
    have HR2 := hide hr2
    clear hb4 hr2
    have hz := HZE.out
    rcases hz with rfl | rfl
    all_goals
      go_wp2_with fail
      refine (SM.out A1 c1 A2 c2 w4 HR3.out HR2.out).mono ?_
      rintro e w5 ⟨rfl, hb5⟩
      have HB5 := hide (HB4.out.trans (hb5.mono HB4.out.size))
      clear hb5
      go_wp2_with fail
      go_ret
      exact ⟨rfl, HB5.out⟩
end Go.Proofs.YtdojmjbknkbpoaaDoor.SignTextsW
