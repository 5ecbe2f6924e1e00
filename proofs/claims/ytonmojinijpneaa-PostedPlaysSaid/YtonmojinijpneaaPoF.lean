/- New receives; which may be posted; Post. -/
import Derived.Test.YtonmojinijpneaaRows
import Derived.Test.YtonmojinijpneaaPoE
import Derived.Deep.RegionLaw
import Derived.Lib.AppendZeros
import Derived.BigQuiet
namespace Go.Proofs.Ytonmojinijpneaa
open Go Go.Joins Go.ChangeShapes Go.WideShapes Go.RowKit Go.Deep Go.Lib
set_option linter.unusedVariables false
set_option linter.unusedSimpArgs false
namespace Po
def L0 : Nat → Option Addr × Nat := fun _ => (none, 0)
def ls0 : Nat → List Rc := fun _ => []
set_option maxRecDepth 100000 in
theorem pCs0 : pCs L0 ls0 = Try.zeroCells60.setIfInBounds 0 (.bool true) := by kernel_rfl
set_option maxRecDepth 100000 in
theorem New_c (w : World) : Calls Try.prog 31 #[] w fun e w' => ∃ p L, e = .returned (.pointer (some ⟨p, 0, none⟩)) ∧ PSt w' p L ls0 ∧ (∀ b ∈ pfoot p L, w.heap.size ≤ b) ∧ Below w.heap.size w w' := by
  have b1 := (Below.refl w.heap.size w).alloc (Nat.le_refl _) (.cells (Try.zeroCells60.setIfInBounds 0 (.bool true)) 60)
  have k1 := Blk.new w 60 (Try.zeroCells60.setIfInBounds 0 (.bool true))
  have HQ : Hid (∃ L, PSt (w.alloc (.cells (Try.zeroCells60.setIfInBounds 0 (.bool true)) 60)) w.heap.size L ls0 ∧ (∀ b ∈ pfoot w.heap.size L, w.heap.size ≤ b)) := hide ⟨L0, ⟨by rw [pCs0]; exact k1, fun k hk => ⟨rfl, .inl ⟨rfl, rfl⟩⟩, fun i j _ _ _ g hg => (by simp [slR, L0, Value.ownBlock] at hg), fun i _ h => (by simp [slR, L0, Value.ownBlock] at h), fun k _ => List.Pairwise.nil, fun k _ r hr => absurd hr List.not_mem_nil⟩, fun b hb => by
    rcases (mem_pfoot ls0).1 hb with rfl | ⟨k, _, e⟩
    · exact Nat.le_refl _
    · simp [slR, L0, Value.ownBlock] at e⟩
  have HB := hide b1
  clear b1 k1
  go_enter Try.func31, Try.ntmps31
  go_wp2
  go_ret
  obtain ⟨L, h1, h2⟩ := HQ.out
  exact ⟨w.heap.size, L, rfl, h1, h2, HB.out⟩
set_option maxRecDepth 100000 in
set_option maxHeartbeats 4000000 in
theorem rmay_c (key : ByteArray) (rk ca pe tg rq : Int) (dn : Bool) (fr sq : Int) (w : World) : Calls Try.prog 64 #[.agg #[.string key, .int .i64 rk, .int .i64 ca, .int .i64 pe, .int .i64 tg, .int .i64 rq, .bool dn, .int .i64 fr, .int .i64 sq]] w fun e w' => e = .returned (.bool (decide (mayR ⟨key, rk, ca, pe, tg, rq, dn, fr, sq⟩))) ∧ Below w.heap.size w w' := by
  have HB := hide ((Below.refl w.heap.size w).alloc (Nat.le_refl _) (.cells #[.string key, .int .i64 rk, .int .i64 ca, .int .i64 pe, .int .i64 tg, .int .i64 rq, .bool dn, .int .i64 fr, .int .i64 sq] 35))
  by_cases h0 : 0 ≤ rk
  rotate_left
  · rw [show decide (mayR ⟨key, rk, ca, pe, tg, rq, dn, fr, sq⟩) = false from decide_eq_false fun h => h0 (by unfold mayR at h; simp only at h; omega)]
    go_enter Try.func64, Try.ntmps64
    go_wp2
    go_ret
    exact ⟨rfl, HB.out⟩
  by_cases h1 : rk < 64
  rotate_left
  · rw [show decide (mayR ⟨key, rk, ca, pe, tg, rq, dn, fr, sq⟩) = false from decide_eq_false fun h => h1 (by unfold mayR at h; simp only at h; omega)]
    go_enter Try.func64, Try.ntmps64
    go_wp2
    go_ret
    exact ⟨rfl, HB.out⟩
  by_cases h2 : 0 ≤ ca
  rotate_left
  · rw [show decide (mayR ⟨key, rk, ca, pe, tg, rq, dn, fr, sq⟩) = false from decide_eq_false fun h => h2 (by unfold mayR at h; simp only at h; omega)]
    go_enter Try.func64, Try.ntmps64
    go_wp2
    go_ret
    exact ⟨rfl, HB.out⟩
  by_cases h3 : -1 ≤ pe
  rotate_left
  · rw [show decide (mayR ⟨key, rk, ca, pe, tg, rq, dn, fr, sq⟩) = false from decide_eq_false fun h => h3 (by unfold mayR at h; simp only at h; omega)]
    go_enter Try.func64, Try.ntmps64
    go_wp2
    go_ret
    exact ⟨rfl, HB.out⟩
  by_cases h4 : pe < 64
  rotate_left
  · rw [show decide (mayR ⟨key, rk, ca, pe, tg, rq, dn, fr, sq⟩) = false from decide_eq_false fun h => h4 (by unfold mayR at h; simp only at h; omega)]
    go_enter Try.func64, Try.ntmps64
    go_wp2
    go_ret
    exact ⟨rfl, HB.out⟩
  by_cases h5 : -1 ≤ tg
  rotate_left
  · rw [show decide (mayR ⟨key, rk, ca, pe, tg, rq, dn, fr, sq⟩) = false from decide_eq_false fun h => h5 (by unfold mayR at h; simp only at h; omega)]
    go_enter Try.func64, Try.ntmps64
    go_wp2
    go_ret
    exact ⟨rfl, HB.out⟩
  by_cases h6 : tg ≤ 32767
  rotate_left
  · rw [show decide (mayR ⟨key, rk, ca, pe, tg, rq, dn, fr, sq⟩) = false from decide_eq_false fun h => h6 (by unfold mayR at h; simp only at h; omega)]
    go_enter Try.func64, Try.ntmps64
    go_wp2
    go_ret
    exact ⟨rfl, HB.out⟩
  by_cases h7 : -1 ≤ rq
  rotate_left
  · rw [show decide (mayR ⟨key, rk, ca, pe, tg, rq, dn, fr, sq⟩) = false from decide_eq_false fun h => h7 (by unfold mayR at h; simp only at h; omega)]
    go_enter Try.func64, Try.ntmps64
    go_wp2
    go_ret
    exact ⟨rfl, HB.out⟩
  rw [show decide (mayR ⟨key, rk, ca, pe, tg, rq, dn, fr, sq⟩) = true from decide_eq_true ⟨h0, h1, h2, h3, h4, h5, h6, h7⟩]
  go_enter Try.func64, Try.ntmps64
  go_wp2
  go_ret
  exact ⟨rfl, HB.out⟩
end Po
end Go.Proofs.Ytonmojinijpneaa
