/- The walk of the statement WitnessTexts. -/
import Derived.Test.YtaakndenkfkijaaDoorRows
import Derived.Test.YtaakndenkfkijaaDoorWitEnv
import Derived.Test.YtaakndenkfkijaaDoorWitSa
import Derived.Test.YtaakndenkfkijaaDoorWitPr
import Derived.Test.YtaakndenkfkijaaDoorWitPa
namespace Go.Proofs.YtaakndenkfkijaaDoor.WitnessTextsW
open Go.Joins Go.ChangeShapes Go.WideShapes Go.RowKit Go.Deep Go.Proofs.YtaakndenkfkijaaDoor Go.Proofs.YtaakndenkfkijaaDoor.Wit
set_option linter.unusedVariables false
set_option linter.unusedSimpArgs false
theorem parB_len {s : List UInt8} {l : List Pk} (h : parB s = some l) : l.length ≤ s.length + 1 := by
  unfold parB at h
  split at h
  · cases h; simp
  · have h1 := reads_len pkB h
    have h2 := spl_cnt 32 s []
    omega
set_option maxRecDepth 100000 in
set_option maxHeartbeats 8000000 in
theorem walk {H : Type} {enc : TypeId × Value → H} {base : Nat} (W : World) (hp : Env W) (v0 : Value) (d0 : DataW H) (p0 : List MemPlace) (o0 : Value.okWide Tryd.prog W .any base 22 v0) (r0 : DataW.Trod enc Tryd.prog W 0 (fun _ => true) true 22 v0 d0 p0) (v1 : Value) (d1 : DataW H) (p1 : List MemPlace) (o1 : Value.okWide Tryd.prog W .any base 22 v1) (r1 : DataW.Trod enc Tryd.prog W 0 (fun _ => true) true 22 v1 d1 p1) (s : ByteArray) (ws : s.size ≤ maxLen) :
    Calls Tryd.prog 3 #[v0, v1, .string s] W fun e w' => e = .returned (.bool true) ∧ Below W.heap.size W w' := by
  obtain ⟨A, l, c, rfl, hr, _, _⟩ := own_rowP o0 r0
  obtain ⟨B, l2, c2, rfl, hr2, _, _⟩ := own_rowP o1 r1
  clear o0 r0 o1 r1 ws
  by_cases hl : l.length ≤ 200
  rotate_left
  · have gI : (200 : Int) < (l.length : Int) := by omega
    clear hr hp hr2
    go_enter Tryd.func3, Tryd.ntmps3
    go_wp2_with fail
    go_ret
    exact ⟨rfl, Below.refl _ _⟩
  have gl : ¬ (200 : Int) < (l.length : Int) := by omega
  by_cases hl2 : l2.length ≤ 200
  rotate_left
  · have gI : (200 : Int) < (l2.length : Int) := by omega
    clear hr hp hr2
    go_enter Tryd.func3, Tryd.ntmps3
    go_wp2_with fail
    go_ret
    exact ⟨rfl, Below.refl _ _⟩
  have gl2 : ¬ (200 : Int) < (l2.length : Int) := by omega
  by_cases hs : s.size ≤ 2000
  rotate_left
  · have gI : (2000 : Int) < (s.size : Int) := by omega
    clear hr hp hr2
    go_enter Tryd.func3, Tryd.ntmps3
    go_wp2_with fail
    go_ret
    exact ⟨rfl, Below.refl _ _⟩
  have gs : ¬ (2000 : Int) < (s.size : Int) := by omega
  have TA := hide fun (w' : World) (h : Below W.heap.size W w') => Text_a A c l w' (hr.below h) (by omega) (hp.below h (Nat.le_refl _))
  have TB := hide fun (w' : World) (h : Below W.heap.size W w') => Text_b A c l w' (hr.below h) (by omega)
  have PA := hide fun (w' : World) (h : Below W.heap.size W w') => Parse_a s w' (by omega) (hp.below h (Nat.le_refl _))
  have PB := hide fun (w' : World) (_ : Below W.heap.size W w') => Parse_b s w' (by omega)
  have SA := hide fun (w' : World) (h : Below W.heap.size W w') => Same_a A B c c2 l l2 w' (hr.below h) (hr2.below h) (by omega) (by omega)
  have SB := hide fun (w' : World) (h : Below W.heap.size W w') => samePicks_b A B c c2 l l2 w' (hr.below h) (hr2.below h) (by omega) (by omega)
  rw [par_same] at PA
  generalize bytes (Wit.txR l) = X at *
  generalize decide (l = l2) = zz at *
  have hze : Wit.txE l = 0 ∨ Wit.txE l = 2 := by unfold Wit.txE; split <;> simp
  have HZE := hide hze
  generalize Wit.txE l = ze at *
  clear hr hp hze hr2
  cases hq : parB s.data.toList with
  | none =>
    have PN : Hid (∀ (w' : World), Below W.heap.size W w' → Calls Tryd.prog 6 #[.string s] w' fun e w'' => e = .returned (.tuple #[.slice none 0 0, .int .i64 240]) ∧ Below w'.heap.size w' w'') := hide fun w' h => (PA.out w' h).mono fun e w'' hh => ⟨by have h1 := hh.1; unfold Wit.PaR at h1; rw [hq] at h1; exact h1, hh.2⟩
    have PM : Hid (∀ (w' : World), Below W.heap.size W w' → Calls Tryd.prog 7 #[.string s] w' fun e w'' => e = .returned (.tuple #[.slice none 0 0, .int .i64 240]) ∧ Below w'.heap.size w' w'') := hide fun w' h => (PB.out w' h).mono fun e w'' hh => ⟨by have h1 := hh.1; unfold Wit.PaR at h1; rw [hq] at h1; exact h1, hh.2⟩
    have SM : Hid (∀ (w' : World), Calls Tryd.prog 8 #[.slice none 0 0, .slice none 0 0] w' fun e w'' => e = .returned (.bool true) ∧ Below w'.heap.size w' w'') := hide fun w' => by
      have t := samePicks_b none none 0 0 [] [] w' ⟨Nat.zero_le _, fun h => absurd h (Nat.lt_irrefl 0)⟩ ⟨Nat.zero_le _, fun h => absurd h (Nat.lt_irrefl 0)⟩ (by simp) (by simp)
      rw [decide_eq_true rfl] at t
      exact t
    clear hq PA PB
    go_enter Tryd.func3, Tryd.ntmps3
    go_wp2_with fail
    refine (TA.out W (Below.refl _ _)).mono ?_
    rintro e w1 ⟨rfl, hb1⟩
    have HB1 := hide hb1
    clear hb1
    go_wp2_with fail
    refine (TB.out w1 HB1.out).mono ?_
    rintro e w2 ⟨rfl, hb2⟩
    have HB2 := hide (HB1.out.trans (hb2.mono HB1.out.size))
    clear hb2
    go_wp2_with fail
    refine (PN.out w2 HB2.out).mono ?_
    rintro e w3 ⟨rfl, hb3⟩
    have HB3 := hide (HB2.out.trans (hb3.mono HB2.out.size))
    clear hb3
    go_wp2_with fail
    refine (PM.out w3 HB3.out).mono ?_
    rintro e w4 ⟨rfl, hb4⟩
    have HB4 := hide (HB3.out.trans (hb4.mono HB3.out.size))
    clear hb4
    have hz := HZE.out
    rcases hz with rfl | rfl
    all_goals
      go_wp2_with fail
      refine (SM.out w4).mono ?_
      rintro e w5 ⟨rfl, hb5⟩
      have HB5 := hide (HB4.out.trans (hb5.mono HB4.out.size))
      clear hb5
      go_wp2_with fail
      refine (SA.out w5 HB5.out).mono ?_
      rintro e w6 ⟨rfl, hb6⟩
      have HB6 := hide (HB5.out.trans (hb6.mono HB5.out.size))
      clear hb6
      go_wp2_with fail
      refine (SB.out w6 HB6.out).mono ?_
      rintro e w7 ⟨rfl, hb7⟩
      have HB7 := hide (HB6.out.trans (hb7.mono HB6.out.size))
      clear hb7
      go_wp2_with fail
      go_ret
      exact ⟨by simp, HB7.out⟩
  | some m =>
    have hml : m.length ≤ 6000 := by
      have := parB_len hq
      have h9 : s.data.toList.length = s.size := by simp
      omega
    have PN : Hid (∀ (w' : World), Below W.heap.size W w' → Calls Tryd.prog 6 #[.string s] w' fun e w'' => (∃ A1 c1, e = .returned (.tuple #[.slice A1 m.length c1, .int .i64 0]) ∧ PRow w'' A1 m) ∧ Below w'.heap.size w' w'') := hide fun w' h => (PA.out w' h).mono fun e w'' hh => ⟨by have h1 := hh.1; unfold Wit.PaR at h1; rw [hq] at h1; exact h1, hh.2⟩
    have PM : Hid (∀ (w' : World), Below W.heap.size W w' → Calls Tryd.prog 7 #[.string s] w' fun e w'' => (∃ A2 c2, e = .returned (.tuple #[.slice A2 m.length c2, .int .i64 0]) ∧ PRow w'' A2 m) ∧ Below w'.heap.size w' w'') := hide fun w' h => (PB.out w' h).mono fun e w'' hh => ⟨by have h1 := hh.1; unfold Wit.PaR at h1; rw [hq] at h1; exact h1, hh.2⟩
    have SM : Hid (∀ A1 c1 A2 c2 (w' : World), PRow w' A1 m → PRow w' A2 m → Calls Tryd.prog 8 #[.slice A1 m.length c1, .slice A2 m.length c2] w' fun e w'' => e = .returned (.bool true) ∧ Below w'.heap.size w' w'') := hide fun A1 c1 A2 c2 w' h1 h2 => by
      have t := samePicks_b A1 A2 c1 c2 m m w' h1 h2 (by omega) (by omega)
      rw [decide_eq_true rfl] at t
      exact t
    clear hq PA PB hml
    go_enter Tryd.func3, Tryd.ntmps3
    go_wp2_with fail
    refine (TA.out W (Below.refl _ _)).mono ?_
    rintro e w1 ⟨rfl, hb1⟩
    have HB1 := hide hb1
    clear hb1
    go_wp2_with fail
    refine (TB.out w1 HB1.out).mono ?_
    rintro e w2 ⟨rfl, hb2⟩
    have HB2 := hide (HB1.out.trans (hb2.mono HB1.out.size))
    clear hb2
    go_wp2_with fail
    refine (PN.out w2 HB2.out).mono ?_
    rintro e w3 ⟨⟨A1, c1, rfl, hr1⟩, hb3⟩
    have HB3 := hide (HB2.out.trans (hb3.mono HB2.out.size))
    have HR1 := hide hr1
    clear hb3 hr1
    go_wp2_with fail
    refine (PM.out w3 HB3.out).mono ?_
    rintro e w4 ⟨⟨A2, c3, rfl, hr3⟩, hb4⟩
    have HB4 := hide (HB3.out.trans (hb4.mono HB3.out.size))
    have HR3 := hide (HR1.out.below hb4)
    have HR2 := hide hr3
    clear hb4 hr3
    have hz := HZE.out
    rcases hz with rfl | rfl
    all_goals
      go_wp2_with fail
      refine (SM.out A1 c1 A2 c3 w4 HR3.out HR2.out).mono ?_
      rintro e w5 ⟨rfl, hb5⟩
      have HB5 := hide (HB4.out.trans (hb5.mono HB4.out.size))
      clear hb5
      go_wp2_with fail
      refine (SA.out w5 HB5.out).mono ?_
      rintro e w6 ⟨rfl, hb6⟩
      have HB6 := hide (HB5.out.trans (hb6.mono HB5.out.size))
      clear hb6
      go_wp2_with fail
      refine (SB.out w6 HB6.out).mono ?_
      rintro e w7 ⟨rfl, hb7⟩
      have HB7 := hide (HB6.out.trans (hb7.mono HB6.out.size))
      clear hb7
      go_wp2_with fail
      go_ret
      exact ⟨by simp, HB7.out⟩
end Go.Proofs.YtaakndenkfkijaaDoor.WitnessTextsW
