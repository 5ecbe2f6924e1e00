/- Whether choices are the same: the reference's answer. -/
import Derived.Test.YtnmaclpjddafnaaRows
import Derived.Test.YtnmaclpjddafnaaSignG
namespace Go.Proofs.Ytnmaclpjddafnaa
open Go.RowKit
set_option linter.unusedVariables false
set_option linter.unusedSimpArgs false
theorem rows_ne {a b : List Ch} {i : Nat} (ha : i < a.length) (hb : i < b.length) (h : ¬ a[i] = b[i]) : decide (a = b) = false := by
  refine decide_eq_false fun e => ?_
  subst e
  exact h rfl
theorem rows_eq {a b : List Ch} (hn : a.length = b.length) (h : ∀ k (ha : k < a.length) (hb : k < b.length), a[k] = b[k]) : decide (a = b) = true :=
  decide_eq_true (List.ext_getElem hn h)
set_option maxRecDepth 100000 in
set_option maxHeartbeats 2000000 in
theorem same_b (A B : Option Addr) (ca cb : Nat) (a b : List Ch) (w : World) (ha : CRow w A a) (hb : CRow w B b) (hla : a.length ≤ 100000) (hlb : b.length ≤ 100000) :
    Calls Try.prog 8 #[.slice A a.length ca, .slice B b.length cb] w fun e w' => e = .returned (.bool (decide (a = b))) ∧ Below w.heap.size w w' := by
  have HA := hide ha
  have HC := hide hb
  have hq : Try.prog.eqGuardType Try.prog.depth 24 = false := by kernel_rfl
  clear ha hb
  by_cases hn : a.length = b.length
  rotate_left
  · have E : Hid (decide (a = b) = false) := hide (decide_eq_false fun e => hn (by rw [e]))
    have h0 : ¬ (a.length : Int) = (b.length : Int) := by omega
    have h1 : ((a.length : Int) == (b.length : Int)) = false := by simpa using h0
    have h2 : ((a.length : Int) != (b.length : Int)) = true := by simpa using h0
    clear h0
    go_enter Try.func8, Try.ntmps8
    go_wp2_with fail
    go_ret
    exact ⟨by rw [E.out]; rfl, Below.refl _ _⟩
  have EQ := hide (fun h => rows_eq hn h)
  have NE := hide (fun (i : Nat) (ha : i < a.length) (hb : i < b.length) (h : ¬ a[i] = b[i]) => rows_ne ha hb h)
  have LN := hide hn
  have h1 : ((a.length : Int) == (b.length : Int)) = true := by simp [hn]
  have h2 : ((a.length : Int) != (b.length : Int)) = false := by simp [hn]
  clear hn
  go_enter Try.func8, Try.ntmps8
  go_wp2_with fail
  go_loopw [5] (fun vi wr => ∃ i : Nat, i ≤ a.length ∧ vi = .int .i64 i ∧ Hid (∀ k (hk : k < i) (hka : k < a.length) (hkb : k < b.length), a[k] = b[k]) ∧ Hid (Below w.heap.size w wr)) (fun vi _ => a.length - (intOf vi).toNat)
  case atStart => exact ⟨0, Nat.zero_le _, rfl, hide (fun k hk => absurd hk (Nat.not_lt_zero k)), hide (Below.refl _ _)⟩
  case round =>
    obtain ⟨i, hi, rfl, HN, HB⟩ := hrel
    by_cases hlt : i < a.length
    · have hlb2 : i < b.length := by have := LN.out; omega
      obtain ⟨p, rfl, hp, hok, h0', h1', h2', h3', h4'⟩ := (HA.out.below HB.out).at_ hlt
      obtain ⟨q, rfl, hq', hok', g0, g1, g2, g3, g4⟩ := (HC.out.below HB.out).at_ hlb2
      have ltI : (i : Int) < (a.length : Int) := by omega
      have ltJ : (i : Int) < (b.length : Int) := by omega
      have NQ := neqCh a[i] b[i]
      have HN2 : Hid (a[i] = b[i] → ∀ k (hk : k < i + 1) (hka : k < a.length) (hkb : k < b.length), a[k] = b[k]) := hide fun hx k hk hka hkb => by
        rcases Nat.lt_or_ge k i with h5 | h5
        · exact HN.out k h5 hka hkb
        · obtain rfl : k = i := by omega
          exact hx
      have HF := hide (NE.out i hlt hlb2)
      clear hok hok'
      generalize a[i] = tk at *
      generalize b[i] = tk' at *
      by_cases hx : tk = tk'
      · have hd : decide (tk = tk') = true := decide_eq_true hx
        rw [hd] at NQ
        have HN3 := hide (HN2.out hx)
        clear hd HN2 HF hx
        obtain ⟨r, c, f, s, v⟩ := tk
        obtain ⟨r', c', f', s', v'⟩ := tk'
        simp only at h0' h1' h2' h3' h4' g0 g1 g2 g3 g4 NQ
        go_wp2_with fail
        go_quiet (fail)
        go_wp2_with fail
        go_roundw
        case rel => exact ⟨i + 1, by omega, by first | trivial | go_num, HN3, hide (below_drewN HB.out _)⟩
        case measure => simp [intOf]; omega
      · have hd : decide (tk = tk') = false := decide_eq_false hx
        rw [hd] at NQ
        have E := hide (HF.out hx)
        clear hd HN2 HF hx
        obtain ⟨r, c, f, s, v⟩ := tk
        obtain ⟨r', c', f', s', v'⟩ := tk'
        simp only at h0' h1' h2' h3' h4' g0 g1 g2 g3 g4 NQ
        go_wp2_with fail
        go_quiet (fail)
        go_wp2_with fail
        go_ret
        exact ⟨by rw [E.out]; rfl, below_drewN HB.out _⟩
    · have E := hide (EQ.out fun k hka hkb => HN.out k (by omega) hka hkb)
      have ltI : ¬ (i : Int) < (a.length : Int) := by omega
      go_wp2_with fail
      go_ret
      exact ⟨by rw [E.out]; rfl, HB.out⟩
end Go.Proofs.Ytnmaclpjddafnaa
