/- Whether picks are the same: the reference's answer. -/
import Derived.Test.YtaakndenkfkijaaDoorRows
import Derived.Test.YtaakndenkfkijaaDoorBase
import Derived.Test.YtaakndenkfkijaaDoorWitR
namespace Go.Proofs.YtaakndenkfkijaaDoor
open Go.RowKit
set_option linter.unusedVariables false
set_option linter.unusedSimpArgs false
namespace Wit
set_option maxRecDepth 100000 in
theorem neqPk (x y : Pk) (w : World) : (binOp .neq 39 (.agg #[.int .u8 x.k, .int .i64 x.r, .int .i64 x.c, .int .i64 x.f, .int .i64 x.s, .int .i64 x.v]) (.agg #[.int .u8 y.k, .int .i64 y.r, .int .i64 y.c, .int .i64 y.f, .int .i64 y.s, .int .i64 y.v])).run Tryd.prog w = .ok (.bool (!decide (x = y))) w := by
  have u_int := Tryd.underlying3; have a_int := Tryd.isAgg3; have z_int := Tryd.sizeOf3
  have u_u8 := Tryd.underlying5; have a_u8 := Tryd.isAgg5; have z_u8 := Tryd.sizeOf5
  have hS : Tryd.prog.underlying 39 = some (.struct (Tryd.prog.fieldsOf 39)) := by kernel_rfl
  have hp : Tryd.prog.stoodInHeld 39 = false := by kernel_rfl
  rw [run_neq_struct, show (10000 : Nat) = 9999 + 1 from rfl, run_equalIn_agg w 9999 39 _ _ hS hp]
  simp only [Program.fieldsOf, Tryd.underlying39]
  clear hS hp
  go_simp
  obtain ⟨x0, x1, x2, x3, x4, x5⟩ := x
  obtain ⟨y0, y1, y2, y3, y4, y5⟩ := y
  dsimp only
  by_cases h0 : x0 = y0
  rotate_left
  · simp [h0]
  subst h0
  by_cases h1 : x1 = y1
  rotate_left
  · simp [h1]
  subst h1
  by_cases h2 : x2 = y2
  rotate_left
  · simp [h2]
  subst h2
  by_cases h3 : x3 = y3
  rotate_left
  · simp [h3]
  subst h3
  by_cases h4 : x4 = y4
  rotate_left
  · simp [h4]
  subst h4
  by_cases h5 : x5 = y5
  rotate_left
  · simp [h5]
  subst h5
  simp
theorem rows_ne {a b : List Pk} {i : Nat} (ha : i < a.length) (hb : i < b.length) (h : ¬ a[i] = b[i]) : decide (a = b) = false := by
  refine decide_eq_false fun e => ?_
  subst e
  exact h rfl
theorem rows_eq {a b : List Pk} (hn : a.length = b.length) (h : ∀ k (ha : k < a.length) (hb : k < b.length), a[k] = b[k]) : decide (a = b) = true :=
  decide_eq_true (List.ext_getElem hn h)
set_option maxRecDepth 100000 in
set_option maxHeartbeats 2000000 in
theorem samePicks_b (A B : Option Addr) (ca cb : Nat) (a b : List Pk) (w : World) (ha : PRow w A a) (hb : PRow w B b) (hla : a.length ≤ 100000) (hlb : b.length ≤ 100000) :
    Calls Tryd.prog 8 #[.slice A a.length ca, .slice B b.length cb] w fun e w' => e = .returned (.bool (decide (a = b))) ∧ Below w.heap.size w w' := by
  have HA := hide ha
  have HC := hide hb
  have hq : Tryd.prog.eqGuardType Tryd.prog.depth 39 = false := by kernel_rfl
  clear ha hb
  by_cases hn : a.length = b.length
  rotate_left
  · have E : Hid (decide (a = b) = false) := hide (decide_eq_false fun e => hn (by rw [e]))
    have h0 : ¬ (a.length : Int) = (b.length : Int) := by omega
    have h1 : ((a.length : Int) == (b.length : Int)) = false := by simpa using h0
    have h2 : ((a.length : Int) != (b.length : Int)) = true := by simpa using h0
    clear h0
    go_enter Tryd.func8, Tryd.ntmps8
    go_wp2_with fail
    go_ret
    exact ⟨by rw [E.out]; rfl, Below.refl _ _⟩
  have EQ := hide (fun h => rows_eq hn h)
  have NE := hide (fun (i : Nat) (ha : i < a.length) (hb : i < b.length) (h : ¬ a[i] = b[i]) => rows_ne ha hb h)
  have LN := hide hn
  have h1 : ((a.length : Int) == (b.length : Int)) = true := by simp [hn]
  have h2 : ((a.length : Int) != (b.length : Int)) = false := by simp [hn]
  clear hn
  go_enter Tryd.func8, Tryd.ntmps8
  go_wp2_with fail
  go_loopw [5] (fun vi wr => ∃ i : Nat, i ≤ a.length ∧ vi = .int .i64 i ∧ Hid (∀ k (hk : k < i) (hka : k < a.length) (hkb : k < b.length), a[k] = b[k]) ∧ Hid (Below w.heap.size w wr)) (fun vi _ => a.length - (intOf vi).toNat)
  case atStart => exact ⟨0, Nat.zero_le _, rfl, hide (fun k hk => absurd hk (Nat.not_lt_zero k)), hide (Below.refl _ _)⟩
  case round =>
    obtain ⟨i, hi, rfl, HN, HB⟩ := hrel
    by_cases hlt : i < a.length
    · have hlb2 : i < b.length := by have := LN.out; omega
      obtain ⟨p, rfl, hp, hok, h0', h1', h2', h3', h4', h5'⟩ := (HA.out.below HB.out).at_ hlt
      obtain ⟨q, rfl, hq', hok', g0, g1, g2, g3, g4, g5⟩ := (HC.out.below HB.out).at_ hlb2
      have ltI : (i : Int) < (a.length : Int) := by omega
      have ltJ : (i : Int) < (b.length : Int) := by omega
      have NQ := neqPk a[i] b[i]
      have HN2 : Hid (a[i] = b[i] → ∀ k (hk : k < i + 1) (hka : k < a.length) (hkb : k < b.length), a[k] = b[k]) := hide fun hx k hk hka hkb => by
        rcases Nat.lt_or_ge k i with h7 | h7
        · exact HN.out k h7 hka hkb
        · obtain rfl : k = i := by omega
          exact hx
      have HF := hide (NE.out i hlt hlb2)
      clear hok hok'
      generalize a[i] = tk at *
      generalize b[i] = tk' at *
      by_cases hx : tk = tk'
      · have hd : decide (tk = tk') = true := decide_eq_true hx
        rw [hd] at NQ
        have HN3 := hide (HN2.out hx)
        clear hd HN2 HF hx
        obtain ⟨kk, r, c, f, s, v⟩ := tk
        obtain ⟨kk', r', c', f', s', v'⟩ := tk'
        simp only at h0' h1' h2' h3' h4' h5' g0 g1 g2 g3 g4 g5 NQ
        go_wp2_with fail
        go_quiet (fail)
        go_wp2_with fail
        go_roundw
        case rel => exact ⟨i + 1, by omega, by first | trivial | go_num, HN3, hide (below_drewN HB.out _)⟩
        case measure => simp [intOf]; omega
      · have hd : decide (tk = tk') = false := decide_eq_false hx
        rw [hd] at NQ
        have E := hide (HF.out hx)
        clear hd HN2 HF hx
        obtain ⟨kk, r, c, f, s, v⟩ := tk
        obtain ⟨kk', r', c', f', s', v'⟩ := tk'
        simp only at h0' h1' h2' h3' h4' h5' g0 g1 g2 g3 g4 g5 NQ
        go_wp2_with fail
        go_quiet (fail)
        go_wp2_with fail
        go_ret
        exact ⟨by rw [E.out]; rfl, below_drewN HB.out _⟩
    · have E := hide (EQ.out fun k hka hkb => HN.out k (by omega) hka hkb)
      have ltI : ¬ (i : Int) < (a.length : Int) := by omega
      go_wp2_with fail
      go_ret
      exact ⟨by rw [E.out]; rfl, HB.out⟩
end Wit
end Go.Proofs.YtaakndenkfkijaaDoor
