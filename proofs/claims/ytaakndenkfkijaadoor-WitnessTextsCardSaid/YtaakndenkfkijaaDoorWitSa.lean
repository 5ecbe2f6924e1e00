/- Whether picks are the same: the program's answer. -/
import Derived.Test.YtaakndenkfkijaaDoorRows
import Derived.Test.YtaakndenkfkijaaDoorWitS
namespace Go.Proofs.YtaakndenkfkijaaDoor
open Go.RowKit
set_option linter.unusedVariables false
set_option linter.unusedSimpArgs false
namespace Wit
set_option maxRecDepth 100000 in
set_option maxHeartbeats 2000000 in
theorem equal_a (A B : Option Addr) (ca cb : Nat) (a b : List Pk) (w : World) (ha : PRow w A a) (hb : PRow w B b) (hla : a.length ≤ 100000) (hlb : b.length ≤ 100000) :
    Calls Tryd.prog 19 #[.slice A a.length ca, .slice B b.length cb] w fun e w' => e = .returned (.bool (decide (a = b))) ∧ Below w.heap.size w w' := by
  have HA := hide ha
  have HC := hide hb
  have hq : Tryd.prog.eqGuardType Tryd.prog.depth 39 = false := by kernel_rfl
  clear ha hb
  by_cases hn : a.length = b.length
  rotate_left
  · have E : Hid (decide (a = b) = false) := hide (decide_eq_false fun e => hn (by rw [e]))
    have h0 : ¬ (a.length : Int) = (b.length : Int) := by omega
    have h1 : ((a.length : Int) == (b.length : Int)) = false := by simpa using h0
    have h2 : ((a.length : Int) != (b.length : Int)) = true := by simpa using h0
    clear h0
    go_enter Tryd.func19, Tryd.ntmps19
    go_wp2_with fail
    go_ret
    exact ⟨by rw [E.out]; rfl, Below.refl _ _⟩
  have EQ := hide (fun h => rows_eq hn h)
  have NE := hide (fun (i : Nat) (ha : i < a.length) (hb : i < b.length) (h : ¬ a[i] = b[i]) => rows_ne ha hb h)
  have LN := hide hn
  have h1 : ((a.length : Int) == (b.length : Int)) = true := by simp [hn]
  have h2 : ((a.length : Int) != (b.length : Int)) = false := by simp [hn]
  clear hn
  go_enter Tryd.func19, Tryd.ntmps19
  go_wp2_with fail
  go_loopw [13] (fun vi wr => ∃ i : Nat, i ≤ a.length ∧ vi = .int .i64 i ∧ Hid (∀ k (hk : k < i) (hka : k < a.length) (hkb : k < b.length), a[k] = b[k]) ∧ Hid (Below w.heap.size w wr)) (fun vi _ => a.length - (intOf vi).toNat)
  case atStart => exact ⟨0, Nat.zero_le _, rfl, hide (fun k hk => absurd hk (Nat.not_lt_zero k)), hide (Below.refl _ _)⟩
  case round =>
    obtain ⟨i, hi, rfl, HN, HB⟩ := hrel
    by_cases hlt : i < a.length
    · have hlb2 : i < b.length := by have := LN.out; omega
      obtain ⟨p, rfl, hp, hok, h0', h1', h2', h3', h4', h5'⟩ := (HA.out.below HB.out).at_ hlt
      obtain ⟨q, rfl, hq', hok', g0, g1, g2, g3, g4, g5⟩ := (HC.out.below HB.out).at_ hlb2
      have ltI : (i : Int) < (a.length : Int) := by omega
      have ltJ : (i : Int) < (b.length : Int) := by omega
      have NQ := neqPk a[i] b[i]
      have HN2 : Hid (a[i] = b[i] → ∀ k (hk : k < i + 1) (hka : k < a.length) (hkb : k < b.length), a[k] = b[k]) := hide fun hx k hk hka hkb => by
        rcases Nat.lt_or_ge k i with h7 | h7
        · exact HN.out k h7 hka hkb
        · obtain rfl : k = i := by omega
          exact hx
      have HF := hide (NE.out i hlt hlb2)
      clear hok hok'
      generalize a[i] = tk at *
      generalize b[i] = tk' at *
      by_cases hx : tk = tk'
      · have hd : decide (tk = tk') = true := decide_eq_true hx
        rw [hd] at NQ
        have HN3 := hide (HN2.out hx)
        clear hd HN2 HF hx
        obtain ⟨kk, r, c, f, s, v⟩ := tk
        obtain ⟨kk', r', c', f', s', v'⟩ := tk'
        simp only at h0' h1' h2' h3' h4' h5' g0 g1 g2 g3 g4 g5 NQ
        go_wp2_with fail
        go_quiet (fail)
        go_wp2_with fail
        go_roundw
        case rel => exact ⟨i + 1, by omega, by first | trivial | go_num, HN3, hide (below_drewN HB.out _)⟩
        case measure => simp [intOf]; omega
      · have hd : decide (tk = tk') = false := decide_eq_false hx
        rw [hd] at NQ
        have E := hide (HF.out hx)
        clear hd HN2 HF hx
        obtain ⟨kk, r, c, f, s, v⟩ := tk
        obtain ⟨kk', r', c', f', s', v'⟩ := tk'
        simp only at h0' h1' h2' h3' h4' h5' g0 g1 g2 g3 g4 g5 NQ
        go_wp2_with fail
        go_quiet (fail)
        go_wp2_with fail
        go_ret
        exact ⟨by rw [E.out]; rfl, below_drewN HB.out _⟩
    · have E := hide (EQ.out fun k hka hkb => HN.out k (by omega) hka hkb)
      have ltI : ¬ (i : Int) < (a.length : Int) := by omega
      go_wp2_with fail
      go_ret
      exact ⟨by rw [E.out]; rfl, HB.out⟩
set_option maxRecDepth 100000 in
theorem Same_a (A B : Option Addr) (ca cb : Nat) (a b : List Pk) (w : World) (ha : PRow w A a) (hb : PRow w B b) (hla : a.length ≤ 100000) (hlb : b.length ≤ 100000) :
    Calls Tryd.prog 9 #[.slice A a.length ca, .slice B b.length cb] w fun e w' => e = .returned (.bool (decide (a = b))) ∧ Below w.heap.size w w' := by
  have D := hide (equal_a A B ca cb a b w ha hb hla hlb)
  generalize decide (a = b) = z at *
  clear ha hb
  go_enter Tryd.func9, Tryd.ntmps9
  go_wp2_with fail
  refine D.out.mono ?_
  rintro e w1 ⟨rfl, hb1⟩
  go_wp2_with fail
  go_ret
  exact ⟨rfl, hb1⟩
end Wit
end Go.Proofs.YtaakndenkfkijaaDoor
