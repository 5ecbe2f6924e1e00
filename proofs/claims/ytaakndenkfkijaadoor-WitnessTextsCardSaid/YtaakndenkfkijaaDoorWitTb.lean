/- The text of a schedule: the reference's. -/
import Derived.Test.YtaakndenkfkijaaDoorRows
import Derived.Test.YtaakndenkfkijaaDoorWitT
namespace Go.Proofs.YtaakndenkfkijaaDoor
open Go.RowKit
set_option linter.unusedVariables false
set_option linter.unusedSimpArgs false
namespace Wit
theorem bytes_nil {l : List UInt8} (h : ¬ l = []) : (bytes l).toList.isEmpty = false := by
  have : ¬ (bytes l).toList = [] := fun e => h (by rw [ByteArray.toList_eq] at e; simpa [bytes] using e)
  simpa using this
theorem bytes_nil0 : (bytes []).toList.isEmpty = true := by rw [ByteArray.toList_eq]; rfl
set_option maxRecDepth 100000 in
set_option maxHeartbeats 4000000 in
theorem Text_b (A : Option Addr) (cap : Nat) (l : List Pk) (w : World) (h : PRow w A l) (hl : l.length ≤ 100000) :
    Calls Tryd.prog 5 #[.slice A l.length cap] w fun e w' => e = .returned (.tuple #[.string (bytes (txR l)), .int .i64 (txE l)]) ∧ Below w.heap.size w w' := by
  by_cases h0 : l.length = 0
  · have e1 : txR l = [45] := by unfold txR; rw [txtP_0 h0]; rfl
    have e2 : txE l = 0 := by unfold txE; rw [txtP_0 h0]; rfl
    have hn0 : ((l.length : Int) == 0) = true := by simp [h0]
    rw [e1, e2]
    have HL := hide h0
    clear e1 e2 h h0
    go_enter Tryd.func5, Tryd.ntmps5
    go_wp2_with fail
    go_ret2
    exact ⟨rfl, Below.refl _ _⟩
  have H := hide h
  have hn0 : ((l.length : Int) == 0) = false := by
    have : ¬ (l.length : Int) = 0 := by omega
    simpa using this
  have OKS : Hid (∀ i (h : i < l.length), (l[i]).ok) := hide fun i hi => (h.at_ hi).choose_spec.2.2.1
  have TL := hide (fun k hk => ttP_len OKS.out k hk)
  have YES := hide (fun h => txtP_yes (l := l) (by omega) h)
  have NO := hide (fun i hi h => @txtP_no l i hi h)
  have RX := hide (show txR l = (txtP l).getD [] from rfl)
  have RE := hide (show txE l = if (txtP l).isSome = true then 0 else 2 from rfl)
  generalize txR l = tr at *
  generalize txE l = te at *
  have HL := hide h0
  have T0 := hide (ttP_0 l)
  clear h h0
  go_enter Tryd.func5, Tryd.ntmps5
  go_wp2_with fail
  go_loopw [4, 5] (fun vs vi wr => ∃ (k : Nat) (S : ByteArray), k ≤ l.length ∧ vi = .int .i64 k ∧ vs = .string S ∧ Hid (S = bytes (ttP l k)) ∧ Hid (∀ i (h : i < l.length), i < k → ¬ oneT l[i] = []) ∧ Hid (Below w.heap.size w wr)) (fun _ vi _ => l.length - (intOf vi).toNat)
  case atStart => exact ⟨0, _, by omega, rfl, rfl, hide (by rw [T0.out]; rfl), hide (fun i _ h => absurd h (Nat.not_lt_zero i)), hide (Below.refl _ _)⟩
  case round =>
    obtain ⟨k, S, hk, rfl, rfl, HS, HN, HB⟩ := hrel
    by_cases hlt : k < l.length
    · obtain ⟨a, rfl, ha, hok, h0, h1, h2, h3, h4, h5⟩ := (H.out.below HB.out).at_ hlt
      have hltI : (k : Int) < (l.length : Int) := by omega
      have hsz : S.size ≤ 30000000 := by
        have := TL.out k (by omega)
        rw [HS.out, bytes_size]
        omega
      have O := hide (one_b l[k] hok)
      have ol : (bytes (oneT l[k])).size ≤ 200 := by rw [bytes_size]; exact one_len hok
      have E0 : Hid (k = 0 → bytes (ttP l (k + 1)) = S ++ bytes (oneT l[k])) := hide fun h => by
        subst h
        rw [ttP_1 l (by omega), HS.out, T0.out, bytes_app]
        rfl
      have E1 : Hid (k ≠ 0 → bytes (ttP l (k + 1)) = (S ++ ⟨#[32]⟩) ++ bytes (oneT l[k])) := hide fun h => by
        rw [ttP_s l k hlt h, HS.out, ← bytes_app, ← bytes_app]
        rfl
      by_cases ho : oneT l[k] = []
      · have R1 : tr = [] := by rw [RX.out, NO.out k hlt ho]; rfl
        have R2 : te = 2 := by rw [RE.out, NO.out k hlt ho]; rfl
        subst R1 R2
        rw [ho] at O
        have hne := bytes_nil0
        clear E0 E1 ol ho hok
        generalize l[k] = tk at *
        obtain ⟨pk, r, c, f, s, v⟩ := tk
        simp only [pkC] at O h0 h1 h2 h3 h4 h5
        go_wp2_with fail
        refine (O.out _).mono ?_
        rintro e w1 ⟨rfl, hb1⟩
        have HB1 := hide (HB.out.trans (hb1.mono HB.out.size))
        clear hb1
        go_wp2_with fail
        go_ret2
        exact ⟨rfl, HB1.out⟩
      · have hne := bytes_nil ho
        have HN2 : Hid (∀ i (h : i < l.length), i < k + 1 → ¬ oneT l[i] = []) := hide fun i hi hik => by
          rcases Nat.lt_or_ge i k with h7 | h7
          · exact HN.out i hi h7
          · obtain rfl : i = k := by omega
            exact ho
        clear ho hok
        generalize bytes (oneT l[k]) = T at *
        generalize l[k] = tk at *
        obtain ⟨pk, r, c, f, s, v⟩ := tk
        simp only [pkC] at O h0 h1 h2 h3 h4 h5
        have m1 : ¬ 9223372036854775807 < S.size + 1 := by omega
        have m2 : ¬ 9223372036854775807 < S.size + 1 + T.size := by omega
        have m3 : ¬ 9223372036854775807 < S.size + T.size := by omega
        by_cases hz : (0 : Int) < (k : Int)
        · have EE := hide (E1.out (by omega))
          go_wp2_with fail
          refine (O.out _).mono ?_
          rintro e w1 ⟨rfl, hb1⟩
          have HB1 := hide (HB.out.trans (hb1.mono HB.out.size))
          clear hb1
          go_wp2_with fail
          go_roundw
          case rel => exact ⟨k + 1, _, by omega, by go_num, rfl, hide EE.out.symm, HN2, HB1⟩
          case measure => simp [intOf]; omega
        · have EE := hide (E0.out (by omega))
          have hz2 : decide ((0 : Int) < (k : Int)) = false := by simpa using hz
          go_wp2_with fail
          refine (O.out _).mono ?_
          rintro e w1 ⟨rfl, hb1⟩
          have HB1 := hide (HB.out.trans (hb1.mono HB.out.size))
          clear hb1
          go_wp2_with fail
          go_roundw
          case rel => exact ⟨k + 1, _, by omega, by go_num, rfl, hide EE.out.symm, HN2, HB1⟩
          case measure => simp [intOf]; omega
    · obtain rfl : k = l.length := by omega
      have hltI : ¬ (l.length : Int) < (l.length : Int) := by omega
      have Y := YES.out fun i hi => HN.out i hi hi
      have R1 : Hid (bytes tr = S) := hide (by rw [RX.out, Y, HS.out]; rfl)
      have R2 : te = 0 := by rw [RE.out, Y]; rfl
      subst R2
      clear Y
      go_wp2_with fail
      go_ret2
      exact ⟨by rw [R1.out]; rfl, HB.out⟩
end Wit
end Go.Proofs.YtaakndenkfkijaaDoor
