/- The walk of the statement SignBack. -/
import Derived.Test.YtdojmjbknkbpoaaDoorRows
import Derived.Test.YtdojmjbknkbpoaaDoorSignRow
namespace Go.Proofs.YtdojmjbknkbpoaaDoor.SignBackW
open Go.Joins Go.ChangeShapes Go.WideShapes Go.RowKit Go.Deep Go.Proofs.YtdojmjbknkbpoaaDoor
set_option linter.unusedVariables false
set_option linter.unusedSimpArgs false
theorem par_len {s : List UInt8} {l : List Ch} (h : parL s = some l) : l.length ≤ s.length + 1 := by
  unfold parL at h
  split at h
  · cases h; simp
  · split at h
    · rename_i l' hr
      split at h
      · cases h
        unfold readL at hr
        split at hr
        · rename_i q hq
          cases hr
          have := read_len hq
          simpa using this
        · cases hr
      · cases h
    · cases h
theorem txt_len {l : List Ch} (h : mayL l = true) (hl : l.length ≤ 200) : (bytes (txtL l)).size ≤ 90000 := by
  rw [bytes_size]
  unfold txtL
  split
  · simp
  · have := txS_le l (fun i hi => mayC_ok (mayL_at h i hi).1) l.length (Nat.le_refl _)
    omega
theorem data_bytes (l : List UInt8) : (bytes l).data.toList = l := by simp [bytes]
set_option maxRecDepth 100000 in
set_option maxHeartbeats 8000000 in
theorem walk {H : Type} {enc : TypeId × Value → H} {base : Nat} (W : World) (hp : Pow W) (v0 : Value) (d0 : DataW H) (p0 : List MemPlace) (o0 : Value.okWide Tryd.prog W .any base 22 v0) (r0 : DataW.Trod enc Tryd.prog W 0 (fun _ => true) true 22 v0 d0 p0) (s : ByteArray) (ws : s.size ≤ maxLen) :
    Calls Tryd.prog 4 #[v0, .string s] W fun e w' => e = .returned (.bool true) ∧ Below W.heap.size W w' := by
  obtain ⟨A, l, c, rfl, hr, _, _⟩ := own_rowC o0 r0
  have AW := hide (awake_a W hp)
  clear o0 r0 ws
  by_cases hl : l.length ≤ 200
  rotate_left
  · have gI : (200 : Int) < (l.length : Int) := by omega
    clear hr hp
    go_enter Tryd.func4, Tryd.ntmps4
    go_wp2_with fail
    refine AW.out.mono ?_
    rintro e w1 ⟨rfl, hb1⟩
    have HB1 := hide hb1
    clear hb1
    go_wp2_with fail
    go_ret
    exact ⟨rfl, HB1.out⟩
  have gl : ¬ (200 : Int) < (l.length : Int) := by omega
  by_cases hs : s.size ≤ 5000
  rotate_left
  · have gI : (5000 : Int) < (s.size : Int) := by omega
    clear hr hp
    go_enter Tryd.func4, Tryd.ntmps4
    go_wp2_with fail
    refine AW.out.mono ?_
    rintro e w1 ⟨rfl, hb1⟩
    have HB1 := hide hb1
    clear hb1
    go_wp2_with fail
    go_ret
    exact ⟨rfl, HB1.out⟩
  have gs : ¬ (5000 : Int) < (s.size : Int) := by omega
  have TX := hide fun (w' : World) (h : Below W.heap.size W w') => Text_a A c l w' (hr.below h) (by omega) (hp.below h (Nat.le_refl _))
  have MY := hide fun (w' : World) (h : Below W.heap.size W w') => May_a A c l w' (hr.below h) (by omega)
  have PS := hide fun (w' : World) (h : Below W.heap.size W w') => Parse_a s w' (by omega) (hp.below h (Nat.le_refl _))
  have HR := hide hr
  have HP := hide hp
  rcases hm : mayL l with _ | _
  · have e1 : bytes (txR l) = ⟨#[]⟩ := by unfold txR; rw [hm]; rfl
    have e2 : txE l = 2 := by unfold txE; rw [hm]; rfl
    rw [hm] at MY
    rw [e1, e2] at TX
    clear e1 e2 hm
    clear hr hp
    cases hq : parL s.data.toList with
    | none =>
      have PN : Hid (∀ (w' : World), Below W.heap.size W w' → Calls Tryd.prog 10 #[.string s] w' fun e w'' => e = .returned (.tuple #[.slice none 0 0, .int .i64 240]) ∧ Below w'.heap.size w' w'') := hide fun w' h => (PS.out w' h).mono fun e w'' hh => ⟨by have h1 := hh.1; unfold PaR at h1; rw [hq] at h1; exact h1, hh.2⟩
      go_enter Tryd.func4, Tryd.ntmps4
      go_wp2_with fail
      refine AW.out.mono ?_
      rintro e w1 ⟨rfl, hb1⟩
      have HB1 := hide hb1
      clear hb1
      go_wp2_with fail
      refine (TX.out w1 HB1.out).mono ?_
      rintro e w2 ⟨rfl, hb2⟩
      have HB2 := hide (HB1.out.trans (hb2.mono HB1.out.size))
      clear hb2
      go_wp2_with fail
      refine (MY.out w2 HB2.out).mono ?_
      rintro e w3 ⟨rfl, hb3⟩
      have HB3 := hide (HB2.out.trans (hb3.mono HB2.out.size))
      clear hb3
      go_wp2_with fail
      refine (PN.out w3 HB3.out).mono ?_
      rintro e w4 ⟨rfl, hb4⟩
      have HB4 := hide (HB3.out.trans (hb4.mono HB3.out.size))
      clear hb4
      go_wp2_with fail
      go_ret
      exact ⟨rfl, HB4.out⟩
    | some m =>
      obtain ⟨hm2, ht2⟩ := par_some hq
      have hl2 := par_len hq
      have hl3 : m.length ≤ 5001 := by
        have : s.data.toList.length = s.size := by simp
        omega
      have eb : bytes (txR m) = s := by
        unfold txR
        rw [if_pos hm2, ht2]
        rfl
      have ee : txE m = 0 := by unfold txE; rw [if_pos hm2]
      have PY : Hid (∀ (w' : World), Below W.heap.size W w' → Calls Tryd.prog 10 #[.string s] w' fun e w'' => (∃ A2 c2, e = .returned (.tuple #[.slice A2 m.length c2, .int .i64 0]) ∧ CRow w'' A2 m) ∧ Below w'.heap.size w' w'') := hide fun w' h => (PS.out w' h).mono fun e w'' hh => ⟨by have h1 := hh.1; unfold PaR at h1; rw [hq] at h1; exact h1, hh.2⟩
      have TM : Hid (∀ A2 c2 (w' : World), CRow w' A2 m → Pow w' → Calls Tryd.prog 8 #[.slice A2 m.length c2] w' fun e w'' => e = .returned (.tuple #[.string s, .int .i64 0]) ∧ Below w'.heap.size w' w'') := hide fun A2 c2 w' h1 h2 => by
        have := Text_a A2 c2 m w' h1 (by omega) h2
        rwa [eb, ee] at this
      have MM : Hid (∀ A2 c2 (w' : World), CRow w' A2 m → Calls Tryd.prog 14 #[.slice A2 m.length c2] w' fun e w'' => e = .returned (.bool true) ∧ Below w'.heap.size w' w'') := hide fun A2 c2 w' h1 => by
        have := May_big A2 c2 m w' h1 (by omega)
        rwa [hm2] at this
      clear hm2 ht2 hl2 hl3 eb ee
      go_enter Tryd.func4, Tryd.ntmps4
      go_wp2_with fail
      refine AW.out.mono ?_
      rintro e w1 ⟨rfl, hb1⟩
      have HB1 := hide hb1
      clear hb1
      go_wp2_with fail
      refine (TX.out w1 HB1.out).mono ?_
      rintro e w2 ⟨rfl, hb2⟩
      have HB2 := hide (HB1.out.trans (hb2.mono HB1.out.size))
      clear hb2
      go_wp2_with fail
      refine (MY.out w2 HB2.out).mono ?_
      rintro e w3 ⟨rfl, hb3⟩
      have HB3 := hide (HB2.out.trans (hb3.mono HB2.out.size))
      clear hb3
      go_wp2_with fail
      refine (PY.out w3 HB3.out).mono ?_
      rintro e w4 ⟨⟨A2, c2, rfl, hr2⟩, hb4⟩
      have HB4 := hide (HB3.out.trans (hb4.mono HB3.out.size))
      have HR2 := hide hr2
      clear hr2
      clear hb4
      go_wp2_with fail
      refine (TM.out A2 c2 w4 HR2.out (HP.out.below HB4.out (Nat.le_refl _))).mono ?_
      rintro e w5 ⟨rfl, hb5⟩
      have HB5 := hide (HB4.out.trans (hb5.mono HB4.out.size))
      have HR3 := hide (HR2.out.below hb5)
      clear hb5
      go_wp2_with fail
      refine (MM.out A2 c2 w5 HR3.out).mono ?_
      rintro e w6 ⟨rfl, hb6⟩
      have HB6 := hide (HB5.out.trans (hb6.mono HB5.out.size))
      clear hb6
      go_wp2_with fail
      go_ret
      exact ⟨rfl, HB6.out⟩
  · have e1 : bytes (txR l) = bytes (txtL l) := by unfold txR; rw [if_pos hm]
    have e2 : txE l = 0 := by unfold txE; rw [if_pos hm]
    have P1 : Hid (∀ (w' : World), Below W.heap.size W w' → Calls Tryd.prog 10 #[.string (bytes (txtL l))] w' fun e w'' => (∃ A1 c1, e = .returned (.tuple #[.slice A1 l.length c1, .int .i64 0]) ∧ CRow w'' A1 l) ∧ Below w'.heap.size w' w'') := hide fun w' h => (Parse_a (bytes (txtL l)) w' (txt_len hm hl) (HP.out.below h (Nat.le_refl _))).mono fun e w'' hh => ⟨by have h1 := hh.1; unfold PaR at h1; rw [data_bytes, par_txt l hm] at h1; exact h1, hh.2⟩
    have S1 : Hid (∀ A1 c1 (w' : World), Below W.heap.size W w' → CRow w' A1 l → Calls Tryd.prog 12 #[.slice A1 l.length c1, .slice A l.length c] w' fun e w'' => e = .returned (.bool true) ∧ Below w'.heap.size w' w'') := hide fun A1 c1 w' h h1 => by
      have := same_b A1 A c1 c l l w' h1 (HR.out.below h) (by omega) (by omega)
      rwa [decide_eq_true rfl] at this
    rw [hm] at MY
    rw [e1, e2] at TX
    clear e1 e2 hm
    generalize bytes (txtL l) = X at *
    clear hr hp
    cases hq : parL s.data.toList with
    | none =>
      have PN : Hid (∀ (w' : World), Below W.heap.size W w' → Calls Tryd.prog 10 #[.string s] w' fun e w'' => e = .returned (.tuple #[.slice none 0 0, .int .i64 240]) ∧ Below w'.heap.size w' w'') := hide fun w' h => (PS.out w' h).mono fun e w'' hh => ⟨by have h1 := hh.1; unfold PaR at h1; rw [hq] at h1; exact h1, hh.2⟩
      go_enter Tryd.func4, Tryd.ntmps4
      go_wp2_with fail
      refine AW.out.mono ?_
      rintro e w1 ⟨rfl, hb1⟩
      have HB1 := hide hb1
      clear hb1
      go_wp2_with fail
      refine (TX.out w1 HB1.out).mono ?_
      rintro e w2 ⟨rfl, hb2⟩
      have HB2 := hide (HB1.out.trans (hb2.mono HB1.out.size))
      clear hb2
      go_wp2_with fail
      refine (MY.out w2 HB2.out).mono ?_
      rintro e w3 ⟨rfl, hb3⟩
      have HB3 := hide (HB2.out.trans (hb3.mono HB2.out.size))
      clear hb3
      go_wp2_with fail
      refine (P1.out w3 HB3.out).mono ?_
      rintro e w4 ⟨⟨A1, c1, rfl, hr1⟩, hb4⟩
      have HB4 := hide (HB3.out.trans (hb4.mono HB3.out.size))
      have HR1 := hide hr1
      clear hr1
      clear hb4
      go_wp2_with fail
      refine (S1.out A1 c1 w4 HB4.out HR1.out).mono ?_
      rintro e w5 ⟨rfl, hb5⟩
      have HB5 := hide (HB4.out.trans (hb5.mono HB4.out.size))
      clear hb5
      go_wp2_with fail
      refine (PN.out w5 HB5.out).mono ?_
      rintro e w6 ⟨rfl, hb6⟩
      have HB6 := hide (HB5.out.trans (hb6.mono HB5.out.size))
      clear hb6
      go_wp2_with fail
      go_ret
      exact ⟨rfl, HB6.out⟩
    | some m =>
      obtain ⟨hm2, ht2⟩ := par_some hq
      have hl2 := par_len hq
      have hl3 : m.length ≤ 5001 := by
        have : s.data.toList.length = s.size := by simp
        omega
      have eb : bytes (txR m) = s := by
        unfold txR
        rw [if_pos hm2, ht2]
        rfl
      have ee : txE m = 0 := by unfold txE; rw [if_pos hm2]
      have PY : Hid (∀ (w' : World), Below W.heap.size W w' → Calls Tryd.prog 10 #[.string s] w' fun e w'' => (∃ A2 c2, e = .returned (.tuple #[.slice A2 m.length c2, .int .i64 0]) ∧ CRow w'' A2 m) ∧ Below w'.heap.size w' w'') := hide fun w' h => (PS.out w' h).mono fun e w'' hh => ⟨by have h1 := hh.1; unfold PaR at h1; rw [hq] at h1; exact h1, hh.2⟩
      have TM : Hid (∀ A2 c2 (w' : World), CRow w' A2 m → Pow w' → Calls Tryd.prog 8 #[.slice A2 m.length c2] w' fun e w'' => e = .returned (.tuple #[.string s, .int .i64 0]) ∧ Below w'.heap.size w' w'') := hide fun A2 c2 w' h1 h2 => by
        have := Text_a A2 c2 m w' h1 (by omega) h2
        rwa [eb, ee] at this
      have MM : Hid (∀ A2 c2 (w' : World), CRow w' A2 m → Calls Tryd.prog 14 #[.slice A2 m.length c2] w' fun e w'' => e = .returned (.bool true) ∧ Below w'.heap.size w' w'') := hide fun A2 c2 w' h1 => by
        have := May_big A2 c2 m w' h1 (by omega)
        rwa [hm2] at this
      clear hm2 ht2 hl2 hl3 eb ee
      go_enter Tryd.func4, Tryd.ntmps4
      go_wp2_with fail
      refine AW.out.mono ?_
      rintro e w1 ⟨rfl, hb1⟩
      have HB1 := hide hb1
      clear hb1
      go_wp2_with fail
      refine (TX.out w1 HB1.out).mono ?_
      rintro e w2 ⟨rfl, hb2⟩
      have HB2 := hide (HB1.out.trans (hb2.mono HB1.out.size))
      clear hb2
      go_wp2_with fail
      refine (MY.out w2 HB2.out).mono ?_
      rintro e w3 ⟨rfl, hb3⟩
      have HB3 := hide (HB2.out.trans (hb3.mono HB2.out.size))
      clear hb3
      go_wp2_with fail
      refine (P1.out w3 HB3.out).mono ?_
      rintro e w4 ⟨⟨A1, c1, rfl, hr1⟩, hb4⟩
      have HB4 := hide (HB3.out.trans (hb4.mono HB3.out.size))
      have HR1 := hide hr1
      clear hr1
      clear hb4
      go_wp2_with fail
      refine (S1.out A1 c1 w4 HB4.out HR1.out).mono ?_
      rintro e w5 ⟨rfl, hb5⟩
      have HB5 := hide (HB4.out.trans (hb5.mono HB4.out.size))
      clear hb5
      go_wp2_with fail
      refine (PY.out w5 HB5.out).mono ?_
      rintro e w6 ⟨⟨A2, c2, rfl, hr2⟩, hb6⟩
      have HB6 := hide (HB5.out.trans (hb6.mono HB5.out.size))
      have HR2 := hide hr2
      clear hr2
      clear hb6
      go_wp2_with fail
      refine (TM.out A2 c2 w6 HR2.out (HP.out.below HB6.out (Nat.le_refl _))).mono ?_
      rintro e w7 ⟨rfl, hb7⟩
      have HB7 := hide (HB6.out.trans (hb7.mono HB6.out.size))
      have HR3 := hide (HR2.out.below hb7)
      clear hb7
      go_wp2_with fail
      refine (MM.out A2 c2 w7 HR3.out).mono ?_
      rintro e w8 ⟨rfl, hb8⟩
      have HB8 := hide (HB7.out.trans (hb8.mono HB7.out.size))
      clear hb8
      go_wp2_with fail
      go_ret
      exact ⟨rfl, HB8.out⟩
end Go.Proofs.YtdojmjbknkbpoaaDoor.SignBackW
