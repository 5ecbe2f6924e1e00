/- The walk of the statement ClockTells: of any two clocks and any rank; without conditions. -/
import Derived.Test.YtjmidldmhmhbnaaClockH
namespace Go.Proofs.Ytjmidldmhmhbnaa.ClockTellsW
open Go.RowKit Go.Proofs.Ytjmidldmhmhbnaa
set_option linter.unusedVariables false
set_option linter.unusedSimpArgs false

theorem ofU_le (l m : List Int) : ofU l m ≤ 3 := by
  unfold ofU cls
  repeat' split
  all_goals omega
theorem rd_later {w w' : World} {B D : Nat} {A : Option Addr} {l : List Int} (h : Rd w B A l) (hB : B ≤ D) (hb : Below D w w') : Rd w' D A l := (h.more hB).below hb

set_option maxRecDepth 100000 in
set_option maxHeartbeats 2000000 in
theorem walk (W : World) (a0 : Option Addr) (len0 cap0 : Nat) (z0 : List Int) (w0 : IsRow .i64 W a0 len0 cap0 z0) (a1 : Option Addr) (len1 cap1 : Nat) (z1 : List Int) (w1 : IsRow .i64 W a1 len1 cap1 z1) (a2 : Int) (w2 : (Lit.int .i64 a2).wf = true) :
    Calls Try.prog 3 #[.slice a0 len0 cap0, .slice a1 len1 cap1, .int .i64 a2] W fun e w' => e = .returned (.bool true) ∧ Below W.heap.size W w' := by
  obtain ⟨hrd, hlen, hmax, _⟩ := rd_isRow w0
  generalize z0.take len0 = l at hrd hlen
  subst hlen
  obtain ⟨hrd', hlen, hmax', _⟩ := rd_isRow w1
  generalize z1.take len1 = m at hrd' hlen
  subst hlen
  clear w0 w1
  have hl63 := hmax
  have hm63 := hmax'
  unfold maxLen at hl63 hm63
  by_cases h80 : 80 < l.length
  · go_enter Try.func3, Try.ntmps3
    go_wp2
    go_ret
    exact ⟨rfl, Below.refl _ _⟩
  have h80' : l.length ≤ 80 := by omega
  by_cases h81 : 80 < m.length
  · go_enter Try.func3, Try.ntmps3
    go_wp2
    go_ret
    exact ⟨rfl, Below.refl _ _⟩
  have h81' : m.length ≤ 80 := by omega
  have Hr := hide hrd
  have Hr' := hide hrd'
  clear hrd hrd' h80 h81
  go_enter Try.func3, Try.ntmps3
  go_wp2_with fail
  refine (of_a _ _ _ _ _ _ _ Hr.out Hr'.out hmax hmax').mono ?_
  rintro e W1 ⟨rfl, hb1⟩
  have Hb := hide hb1
  have H1 : Hid (Rd W1 W.heap.size a0 l) := hide (rd_later Hr.out (Nat.le_refl _) hb1)
  have H1' : Hid (Rd W1 W.heap.size a1 m) := hide (rd_later Hr'.out (Nat.le_refl _) hb1)
  clear hb1
  go_wp2_with fail
  refine (of_b _ _ _ _ _ _ _ _ _ H1.out H1'.out hmax hmax').mono ?_
  rintro e w' ⟨rfl, n1, rfl⟩
  go_wp2_with fail
  refine (late_a _ _ _ _ _ _ _ _ _ _ (H1.out.drewN _) (H1'.out.drewN _) hmax hmax').mono ?_
  rintro e w' ⟨rfl, n2, rfl⟩
  have hU := ofU_le l m
  generalize ofU l m = U at *
  generalize ofE l m = OE at *
  go_wp2_with fail
  refine (late_b _ _ _ _ _ _ _ _ _ _ (H1.out.drewN _) (H1'.out.drewN _) hmax hmax').mono ?_
  rintro e w' ⟨rfl, n3, rfl⟩
  generalize lateB l m a2 = LB at *
  generalize lateE l m a2 = LE at *
  have t1 : ((U : Int) == (U : Int)) = true := by simp
  have t2 : (OE == OE) = true := by simp
  have t3 : (LB == LB) = true := by simp
  have t4 : (LE == LE) = true := by simp
  go_wp2_with fail
  refine (may_a _ _ _ _ _ (H1.out.drewN _) hmax).mono ?_
  rintro e w' ⟨rfl, rfl⟩
  go_wp2_with fail
  refine (may_b _ _ _ _ _ (H1.out.drewN _) hmax).mono ?_
  rintro e w' ⟨rfl, rfl⟩
  generalize mayB l = MB at *
  have t5 : (MB == MB) = true := by simp
  go_wp2_with fail
  refine (sum_a _ _ _ _ _ (H1.out.drewN _) hmax).mono ?_
  rintro e w' ⟨rfl, rfl⟩
  go_wp2_with fail
  refine (sum_b _ _ _ _ _ (H1.out.drewN _) hmax).mono ?_
  rintro e w' ⟨rfl, rfl⟩
  generalize sumB l = SB at *
  have t6 : (SB == SB) = true := by simp
  go_wp2
  go_ret
  exact ⟨rfl, below_drewN Hb.out _⟩
end Go.Proofs.Ytjmidldmhmhbnaa.ClockTellsW
