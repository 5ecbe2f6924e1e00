/- What asks the program's order: Many, there, Depth, Clock, Ahead, Past. -/
import Derived.Test.YtflaikhkddjfjaaRows
import Derived.Test.YtflaikhkddjfjaaOrdE
import Derived.Test.YtflaikhkddjfjaaQuietBelow
import Derived.BigQuiet
import Derived.LoopN
namespace Go.Proofs.Ytflaikhkddjfjaa
open Go Go.RowKit
set_option linter.unusedVariables false
set_option linter.unusedSimpArgs false
namespace Ord
theorem OrA.drewN {w : World} {o B Rb : Nat} {es : List Eo} (h : OrA w o B Rb es) (n : Nat) : OrA (w.drewN n) o B Rb es := ⟨h.tab, h.rows⟩
set_option maxRecDepth 100000 in
set_option maxHeartbeats 2000000 in
theorem Many_c (o B Rb : Nat) (es : List Eo) (w : World) (ho : OrA w o B Rb es) :
    Calls Try.prog 16 #[.pointer (some ⟨o, 0, none⟩)] w fun e w' => e = .returned (.int .i64 es.length) ∧ w = w' := by
  obtain ⟨V, c, b, _⟩ := ho.open_
  have c0 : w.cell? ⟨o, 0, none⟩ = some (.slice V es.length c) := b.cell 0
  clear ho
  go_enter Try.func16, Try.ntmps16
  go_wp2_with fail
  go_ret
  exact ⟨rfl, rfl⟩
def inB (es : List Eo) (i : Int) : Bool := decide (0 ≤ i ∧ i < es.length)
set_option maxRecDepth 100000 in
set_option maxHeartbeats 2000000 in
theorem there_c (o B Rb : Nat) (es : List Eo) (i : Int) (w : World) (ho : OrA w o B Rb es) :
    Calls Try.prog 27 #[.pointer (some ⟨o, 0, none⟩), .int .i64 i] w fun e w' => e = .returned (.bool (inB es i)) ∧ w = w' := by
  have MC := hide (Many_c o B Rb es w ho)
  clear ho
  by_cases h0 : 0 ≤ i
  · by_cases h1 : i < es.length
    · have e : inB es i = true := decide_eq_true ⟨h0, h1⟩
      rw [e]
      go_enter Try.func27, Try.ntmps27
      go_wp2_with fail
      refine MC.out.mono ?_
      rintro e w' ⟨rfl, rfl⟩
      go_wp2_with fail
      go_ret
      exact ⟨by simp [h1], rfl⟩
    · have e : inB es i = false := decide_eq_false (by omega)
      rw [e]
      go_enter Try.func27, Try.ntmps27
      go_wp2_with fail
      refine MC.out.mono ?_
      rintro e w' ⟨rfl, rfl⟩
      go_wp2_with fail
      go_ret
      exact ⟨by simp [h1], rfl⟩
  · have e : inB es i = false := decide_eq_false (by omega)
    rw [e]
    go_enter Try.func27, Try.ntmps27
    go_wp2_with fail
    go_ret
    exact ⟨rfl, rfl⟩
set_option maxRecDepth 100000 in
set_option maxHeartbeats 2000000 in
theorem Depth_c (o B Rb : Nat) (es : List Eo) (i : Int) (w : World) (ho : OrA w o B Rb es) :
    Calls Try.prog 15 #[.pointer (some ⟨o, 0, none⟩), .int .i64 i] w fun e w' => e = .returned (.tuple (if inB es i then #[.int .i64 ((es.getD i.toNat default).d : Int), .int .i64 0] else #[.int .i64 0, .int .i64 2])) ∧ w = w' := by
  have TC := hide (there_c o B Rb es i w ho)
  cases hb : inB es i with
  | false =>
    rw [hb] at TC
    clear ho hb
    go_enter Try.func15, Try.ntmps15
    go_wp2_with fail
    refine TC.out.mono ?_
    rintro e w' ⟨rfl, rfl⟩
    go_wp2_with fail
    go_ret2
    exact ⟨rfl, rfl⟩
  | true =>
    rw [hb] at TC
    obtain ⟨h0, h1⟩ := of_decide_eq_true hb
    obtain ⟨k, rfl⟩ : ∃ k : Nat, i = k := ⟨i.toNat, by omega⟩
    have hk : k < es.length := by omega
    obtain ⟨V, c, b, _, hc⟩ := ho.open_
    obtain ⟨g, rfl, c0, c1, c2, c3⟩ := hc k hk
    have hd : (es.getD ((k : Nat) : Int).toNat default).d = es[k].d := by rw [Int.toNat_natCast, getD_getE hk]
    rw [hd]
    have b0 : w.cell? ⟨o, 0, none⟩ = some (.slice (some ⟨g, 0, none⟩) es.length c) := b.cell 0
    clear ho hb hc b hd
    generalize es[k].d = d at *
    go_enter Try.func15, Try.ntmps15
    go_wp2_with fail
    refine TC.out.mono ?_
    rintro e w' ⟨rfl, rfl⟩
    go_wp2_with fail
    go_ret2
    exact ⟨rfl, rfl⟩
end Ord
end Go.Proofs.Ytflaikhkddjfjaa
