/- The text of a signature: the reference's. -/
import Derived.Test.YtdojmjbknkbpoaaDoorRows
import Derived.Test.YtdojmjbknkbpoaaDoorSignTa
import Derived.Test.YtdojmjbknkbpoaaDoorSignC
import Derived.Test.YtdojmjbknkbpoaaDoorSignN
namespace Go.Proofs.YtdojmjbknkbpoaaDoor
open Go.RowKit
open Go.Lib (itoa itoa_length_le)
set_option linter.unusedVariables false
set_option linter.unusedSimpArgs false
theorem rowG_num (x : Ch) : ∀ j, rowG x j = numN x j
  | 0 => rfl
  | 1 => rfl
  | 2 => rfl
  | 3 => rfl
  | _ + 4 => rfl
theorem numN_may {t : Ch} (h : mayC t = true) (j : Nat) : -1 ≤ numN t j ∧ numN t j ≤ 1099511627776 := by
  simp only [mayC, Bool.and_eq_true, decide_eq_true_eq] at h
  unfold numN
  split <;> omega
set_option maxRecDepth 100000 in
set_option maxHeartbeats 4000000 in
theorem text_runB (A : Option Addr) (cap : Nat) (l : List Ch) (w : World) (h : CRow w A l) (hl : l.length ≤ 100000) (hm : mayL l = true) (h0 : 0 < l.length) :
    Calls Tryd.prog 9 #[.slice A l.length cap] w fun e w' => e = .returned (.tuple #[.string (bytes (txS l l.length)), .int .i64 0]) ∧ Below w.heap.size w w' := by
  have H := hide h
  have M := hide (May_bigB A cap l w h (by omega))
  rw [hm] at M
  have MO := hide (fun i (hi : i < l.length) => (mayL_at hm i hi).1)
  have TL := hide (txS_le l (fun i hi => mayC_ok (MO.out i hi)))
  have hn0 : ((l.length : Int) == 0) = false := by
    have : ¬ (l.length : Int) = 0 := by omega
    simpa using this
  clear h hm h0
  go_enter Tryd.func9, Tryd.ntmps9
  go_wp2_with fail
  refine M.out.mono ?_
  rintro e w0 ⟨rfl, hb0⟩
  have H0 := hide (H.out.below hb0)
  have B0 := hide hb0
  have hs0 := hb0.size
  clear hb0
  go_wp2_with fail
  go_loopw [4, 5] (fun vs vi wr => ∃ (k : Nat) (S : ByteArray), k ≤ l.length ∧ vi = .int .i64 k ∧ vs = .string S ∧ Hid (S = bytes (txS l k)) ∧ Hid (Below w0.heap.size w0 wr)) (fun _ vi _ => l.length - (intOf vi).toNat)
  case atStart => exact ⟨0, ⟨#[]⟩, by omega, rfl, rfl, hide rfl, hide (Below.refl _ _)⟩
  case round =>
    obtain ⟨k, S, hk, rfl, rfl, HS, HB⟩ := hrel
    by_cases hlt : k < l.length
    · obtain ⟨a, rfl, ha, hok, h0, h1, h2, h3, h4⟩ := (H0.out.below HB.out).at_ hlt
      have hl1 := TL.out k (by omega)
      have hS : S.size ≤ 11000000 := by rw [HS.out, bytes_size]; omega
      have hltI : (k : Int) < (l.length : Int) := by omega
      have RB := hide (row_b l[k])
      have NM := hide (numN_may (MO.out k hlt))
      have CL := hide (chP_le l[k] hok)
      have RG := hide (rowG_num l[k])
      have E0 : Hid (k = 0 → txS l (k + 1) = [] ++ chT l[k]) := hide fun h => by
        subst h
        simp [txS, List.getD, hlt]
      have E1 : Hid (k ≠ 0 → txS l (k + 1) = (txS l k ++ [32]) ++ chT l[k]) := hide fun h => by
        simp [txS, h, List.getD, hlt]
      have CA := hide (chP_all l[k])
      have CS : Hid (∀ j, chP l[k] (j + 1) = (chP l[k] j ++ (if j = 0 then [] else [46])) ++ itoa (numN l[k] j)) := hide fun j => rfl
      have CP0 : Hid (chP l[k] 0 = []) := hide rfl
      clear hok
      generalize l[k] = tk at *
      obtain ⟨PR, hPR⟩ : ∃ PR : List UInt8, PR = if k = 0 then [] else txS l k ++ [32] := ⟨_, rfl⟩
      have hL : PR.length ≤ 11000001 := by rw [hPR]; split <;> simp <;> omega
      have HE : Hid (txS l (k + 1) = PR ++ chT tk) := hide (by
        rw [hPR]
        by_cases hz : k = 0
        · rw [if_pos hz]; exact E0.out hz
        · rw [if_neg hz]; exact E1.out hz)
      have HP0 : Hid (k = 0 → S = bytes PR) := hide fun hz => by rw [hPR, if_pos hz, HS.out, hz]; rfl
      have HP1 : Hid (k ≠ 0 → S ++ bytes [32] = bytes PR) := hide fun hz => by rw [hPR, if_neg hz, HS.out, bytes_app]
      clear hPR E0 E1 hl1
      obtain ⟨r, c, f, s, v⟩ := tk
      unfold Ch.val at RB
      simp only at h0 h1 h2 h3 h4 RB
      have hc1 : ¬ 9223372036854775807 < S.size + 1 := by omega
      by_cases hz : (0 : Int) < (k : Int)
      have hpos : k ≠ 0 := by omega
      have hcat : S ++ ⟨#[32]⟩ = bytes PR := HP1.out hpos
      go_wp2_with fail
      rotate_left
      have hpos : k = 0 := by omega
      have HK := hide hpos
      have hz2 : decide ((0 : Int) < (k : Int)) = false := by simpa using hz
      obtain rfl : S = bytes PR := HP0.out hpos
      clear hpos
      go_wp2_with fail
      rotate_left
      all_goals
        refine (RB.out _).mono ?_
        rintro e w1 ⟨⟨g, rfl, RA⟩, hb1⟩
        have RA1 := hide RA
        have B1 := hide (HB.out.trans (hb1.mono HB.out.size))
        clear RA hb1
        go_wp2_with fail
        go_loopw [4, 7] (fun vs vj wq => ∃ (j : Nat) (S2 : ByteArray), j ≤ 5 ∧ vj = .int .i64 j ∧ vs = .string S2 ∧ Hid (S2 = bytes (PR ++ chP ⟨r, c, f, s, v⟩ j)) ∧ Hid (RowAt wq g ⟨r, c, f, s, v⟩) ∧ Hid (Below w0.heap.size w0 wq)) (fun _ vj _ => 5 - (intOf vj).toNat)
        case atStart => exact ⟨0, _, by omega, rfl, rfl, hide (by rw [CP0.out, List.append_nil]), RA1, B1⟩
        case round =>
          obtain ⟨j, S2, hj, rfl, rfl, HS2, RA2, B2⟩ := hrel
          by_cases hj5 : j < 5
          · have hj5I : (j : Int) < 5 := by omega
            have cell := RA2.out.2 j hj5
            rw [RG.out j] at cell
            have nm := NM.out j
            have cl := CL.out j
            have cs := hide (CS.out j)
            have NB := hide (number23_b (numN ⟨r, c, f, s, v⟩ j) (by omega) (by omega))
            have il : (bytes (itoa (numN ⟨r, c, f, s, v⟩ j))).size ≤ 21 := by rw [bytes_size]; exact itoa_length_le _ (by omega) (by omega)
            have hS2 : S2.size ≤ 11000200 := by rw [HS2.out, bytes_size, List.length_append]; omega
            have EA : Hid (j = 0 → S2 ++ bytes (itoa (numN ⟨r, c, f, s, v⟩ j)) = bytes (PR ++ chP ⟨r, c, f, s, v⟩ (j + 1))) := hide fun h => by rw [HS2.out, bytes_app, cs.out, if_pos h]; simp
            have EB : Hid (j ≠ 0 → S2 ++ ⟨#[46]⟩ ++ bytes (itoa (numN ⟨r, c, f, s, v⟩ j)) = bytes (PR ++ chP ⟨r, c, f, s, v⟩ (j + 1))) := hide fun h => by
              rw [HS2.out, cs.out, if_neg h]
              have : (⟨#[46]⟩ : ByteArray) = bytes [46] := rfl
              rw [this, bytes_app, bytes_app]
              simp
            generalize bytes (itoa (numN ⟨r, c, f, s, v⟩ j)) = SI at *
            generalize numN ⟨r, c, f, s, v⟩ j = nj at *
            have hc2 : ¬ 9223372036854775807 < S2.size + 1 := by omega
            have hc3 : ¬ 9223372036854775807 < S2.size + SI.size := by omega
            by_cases hjz : (0 : Int) < (j : Int)
            · have hsz : (S2 ++ ⟨#[46]⟩ : ByteArray).size = S2.size + 1 := by rw [ByteArray.size_append]; rfl
              have hc4 : ¬ 9223372036854775807 < (S2 ++ ⟨#[46]⟩ : ByteArray).size + SI.size := by omega
              have hc5 : ¬ 9223372036854775807 < S2.size + 1 + SI.size := by omega
              have HZ := hide hsz
              clear hsz
              go_wp2_with fail
              refine (NB.out _).mono ?_
              rintro e w2 ⟨rfl, hb2⟩
              have B3 := hide (B2.out.trans (hb2.mono B2.out.size))
              have RA3 := hide (RA2.out.below hb2)
              clear hb2
              go_wp2_with fail
              go_roundw
              case rel => exact ⟨j + 1, _, by omega, by go_num, rfl, hide (EB.out (by omega)), RA3, B3⟩
              case measure => simp [intOf]; omega
            · have hjz2 : decide ((0 : Int) < (j : Int)) = false := by simpa using hjz
              go_wp2_with fail
              refine (NB.out _).mono ?_
              rintro e w2 ⟨rfl, hb2⟩
              have B3 := hide (B2.out.trans (hb2.mono B2.out.size))
              have RA3 := hide (RA2.out.below hb2)
              clear hb2
              go_wp2_with fail
              go_roundw
              case rel => exact ⟨j + 1, _, by omega, by go_num, rfl, hide (EA.out (by omega)), RA3, B3⟩
              case measure => simp [intOf]; omega
          · obtain rfl : j = 5 := by omega
            go_wp2_with fail
            go_roundw
            case rel => exact ⟨k + 1, _, by omega, by go_num, rfl, hide (by rw [HS2.out, HE.out, ← CA.out]), B2⟩
            case measure => simp [intOf]; omega
    · obtain rfl : k = l.length := by omega
      have hltI : ¬ (l.length : Int) < (l.length : Int) := by omega
      go_wp2_with fail
      go_ret2
      exact ⟨by rw [HS.out]; rfl, B0.out.trans (HB.out.mono hs0)⟩
set_option maxRecDepth 100000 in
set_option maxHeartbeats 2000000 in
/-- The reference's Text. -/
theorem Text_b (A : Option Addr) (cap : Nat) (l : List Ch) (w : World) (h : CRow w A l) (hl : l.length ≤ 100000) :
    Calls Tryd.prog 9 #[.slice A l.length cap] w fun e w' => e = .returned (.tuple #[.string (bytes (txR l)), .int .i64 (txE l)]) ∧ Below w.heap.size w w' := by
  rcases hm : mayL l with _ | _
  · have e1 : txR l = [] := by unfold txR; rw [hm]; rfl
    have e2 : txE l = 2 := by unfold txE; rw [hm]; rfl
    have M := hide (May_bigB A cap l w h (by omega))
    rw [hm] at M
    rw [e1, e2]
    clear e1 e2 hm h
    go_enter Tryd.func9, Tryd.ntmps9
    go_wp2_with fail
    refine M.out.mono ?_
    rintro e w0 ⟨rfl, hb0⟩
    go_wp2_with fail
    go_ret2
    exact ⟨rfl, hb0⟩
  · have e2 : txE l = 0 := by unfold txE; rw [hm]; rfl
    by_cases h0 : l.length = 0
    · have e1 : txR l = [45] := by unfold txR txtL; rw [hm, if_pos rfl, if_pos h0]
      have M := hide (May_bigB A cap l w h (by omega))
      rw [hm] at M
      have hn0 : ((l.length : Int) == 0) = true := by simp [h0]
      rw [e1, e2]
      have HL := hide h0
      clear e1 e2 hm h h0
      go_enter Tryd.func9, Tryd.ntmps9
      go_wp2_with fail
      refine M.out.mono ?_
      rintro e w0 ⟨rfl, hb0⟩
      go_wp2_with fail
      go_ret2
      exact ⟨rfl, hb0⟩
    · have e1 : txR l = txS l l.length := by unfold txR txtL; rw [hm, if_pos rfl, if_neg h0]
      rw [e1, e2]
      exact text_runB A cap l w h hl hm (by omega)
end Go.Proofs.YtdojmjbknkbpoaaDoor
