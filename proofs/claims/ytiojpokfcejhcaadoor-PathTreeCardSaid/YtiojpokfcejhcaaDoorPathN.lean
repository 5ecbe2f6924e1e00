/- The reference's Same, on steps that are the same. -/
import Derived.Test.YtiojpokfcejhcaaDoorRows
import Derived.Test.YtiojpokfcejhcaaDoorPathG
import Derived.Test.YtiojpokfcejhcaaDoorPathRo
import Derived.Deep.RegionWith
namespace Go.Proofs.YtiojpokfcejhcaaDoor
open Go Go.RowKit
set_option linter.unusedVariables false
set_option linter.unusedSimpArgs false
namespace Pth
set_option maxRecDepth 100000 in
theorem neqSp (x : Sp) (w : World) : (binOp .neq 49 (.agg #[.bool x.off, .int .i64 x.r, .int .i64 x.c, .int .i64 x.ch.r, .int .i64 x.ch.c, .int .i64 x.ch.f, .int .i64 x.ch.s, .int .i64 x.ch.v]) (.agg #[.bool x.off, .int .i64 x.r, .int .i64 x.c, .int .i64 x.ch.r, .int .i64 x.ch.c, .int .i64 x.ch.f, .int .i64 x.ch.s, .int .i64 x.ch.v])).run Tryd.prog w = .ok (.bool false) w := by
  have u_int := Tryd.underlying3; have a_int := Tryd.isAgg3; have z_int := Tryd.sizeOf3
  have u_b := Tryd.underlying4; have a_b := Tryd.isAgg4; have z_b := Tryd.sizeOf4
  have u_c := Tryd.underlying47; have a_c := Tryd.isAgg47; have z_c := Tryd.sizeOf47
  have hS : Tryd.prog.underlying 49 = some (.struct (Tryd.prog.fieldsOf 49)) := by kernel_rfl
  have hp : Tryd.prog.stoodInHeld 49 = false := by kernel_rfl
  have hS2 : Tryd.prog.underlying 47 = some (.struct (Tryd.prog.fieldsOf 47)) := by kernel_rfl
  have hp2 : Tryd.prog.stoodInHeld 47 = false := by kernel_rfl
  rw [run_neq_struct, show (10000 : Nat) = 9999 + 1 from rfl, run_equalIn_agg w 9999 49 _ _ hS hp]
  simp only [Program.fieldsOf, Tryd.underlying49]
  go_simp
theorem spN_len (x : Sp) : (spC x).length = 8 := rfl
theorem spN_cons (t : Sp) (l : List Sp) : spCs (t :: l) = spC t ++ spCs l := rfl
theorem spN_at : ∀ (l : List Sp) (i : Nat) (hi : i < l.length) (j : Nat), j < 8 → (spCs l)[i * 8 + j]? = (spC l[i])[j]?
  | t :: l, 0, _, j, hj => by
    rw [spN_cons, List.getElem?_append_left (by rw [spN_len]; omega)]
    simp
  | t :: l, i + 1, hi, j, hj => by
    have e : (i + 1) * 8 + j = (spC t).length + (i * 8 + j) := by rw [spN_len]; omega
    rw [spN_cons, e, List.getElem?_append_right (by omega), Nat.add_sub_cancel_left]
    exact spN_at l i (by simpa using hi) j hj
theorem own_sp {w : World} {B c n m : Nat} {A : Option Addr} {l : List Sp} (h : w.ownsRow B 49 8 (.slice A m c) n (spCs l)) (i : Nat) (hi : i < l.length) (hn : 0 < n) :
    ∃ g, A = some ⟨g, 0, none⟩ ∧ w.cell? ⟨g, i * 8, none⟩ = some (.bool l[i].off) ∧ w.cell? ⟨g, i * 8 + 1, none⟩ = some (.int .i64 l[i].r) ∧ w.cell? ⟨g, i * 8 + 2, none⟩ = some (.int .i64 l[i].c) ∧ w.cell? ⟨g, i * 8 + 3, none⟩ = some (.int .i64 l[i].ch.r) ∧ w.cell? ⟨g, i * 8 + 4, none⟩ = some (.int .i64 l[i].ch.c) ∧ w.cell? ⟨g, i * 8 + 5, none⟩ = some (.int .i64 l[i].ch.f) ∧ w.cell? ⟨g, i * 8 + 6, none⟩ = some (.int .i64 l[i].ch.s) ∧ w.cell? ⟨g, i * 8 + 7, none⟩ = some (.int .i64 l[i].ch.v) := by
  obtain ⟨g, rfl, _, _, _, _, _, hc⟩ := own_cell h hn
  exact ⟨g, rfl, hc _ _ (spN_at l i hi 0 (by omega)), hc _ _ (spN_at l i hi 1 (by omega)), hc _ _ (spN_at l i hi 2 (by omega)), hc _ _ (spN_at l i hi 3 (by omega)), hc _ _ (spN_at l i hi 4 (by omega)), hc _ _ (spN_at l i hi 5 (by omega)), hc _ _ (spN_at l i hi 6 (by omega)), hc _ _ (spN_at l i hi 7 (by omega))⟩
set_option maxRecDepth 100000 in
set_option maxHeartbeats 4000000 in
theorem Same_b (B1 B2 : Nat) (v1 v2 : Value) (l : List Sp) (w : World) (h1 : w.ownsRow B1 49 8 v1 l.length (spCs l)) (h2 : w.ownsRow B2 49 8 v2 l.length (spCs l)) (hl : l.length ≤ 2000) :
    Calls Tryd.prog 13 #[v1, v2] w fun e w' => e = .returned (.bool true) ∧ Below w.heap.size w w' := by
  obtain ⟨a1, c1, rfl⟩ := own_form h1
  obtain ⟨a2, c2, rfl⟩ := own_form h2
  have H1 := hide h1
  have H2 := hide h2
  have hq : Tryd.prog.eqGuardType Tryd.prog.depth 49 = false := by kernel_rfl
  clear h1 h2
  go_enter Tryd.func13, Tryd.ntmps13
  go_wp2_with fail
  go_loopw [5] (fun vi wr => ∃ i : Nat, i ≤ l.length ∧ vi = .int .i64 i ∧ Hid (Below w.heap.size w wr)) (fun vi _ => l.length - (intOf vi).toNat)
  case atStart => exact ⟨0, Nat.zero_le _, rfl, hide (Below.refl _ _)⟩
  case round =>
    obtain ⟨i, hi, rfl, HB⟩ := hrel
    by_cases hlt : i < l.length
    · have ltI : (i : Int) < (l.length : Int) := by omega
      obtain ⟨p, rfl, p0, p1, p2, p3, p4, p5, p6, p7⟩ := own_sp (own_belowR H1.out HB.out) i hlt (by omega)
      obtain ⟨q, rfl, q0, q1, q2, q3, q4, q5, q6, q7⟩ := own_sp (own_belowR H2.out HB.out) i hlt (by omega)
      have NQ := neqSp l[i]
      generalize l[i] = x at *
      obtain ⟨xo, xr, xc, ⟨x0, x1, x2, x3, x4⟩⟩ := x
      simp only at p0 p1 p2 p3 p4 p5 p6 p7 q0 q1 q2 q3 q4 q5 q6 q7 NQ
      go_wp2_with fail
      go_quiet (fail)
      go_wp2_with fail
      go_roundw
      case rel => exact ⟨i + 1, by omega, by first | trivial | go_num, hide (below_drewN HB.out _)⟩
      case measure => simp [intOf]; omega
    · have ltI : ¬ (i : Int) < (l.length : Int) := by omega
      go_wp2_with fail
      go_ret
      exact ⟨rfl, HB.out⟩
end Pth
end Go.Proofs.YtiojpokfcejhcaaDoor
