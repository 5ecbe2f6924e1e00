/- Two calls that tell the same, two runs that come to the same. -/
import Derived.Test.YtoiibphbogpojaaDoorRows
import Derived.Test.YtoiibphbogpojaaDoorVmW
import Derived.BigQuiet
namespace Go.Proofs.YtoiibphbogpojaaDoor
open Go Go.RowKit Go.Lib Go.Proofs.YtoiibphbogpojaaDoor.Cod
set_option linter.unusedVariables false
set_option linter.unusedSimpArgs false
namespace Vm
section
variable {w w1 : World}
/-- Where the row of requests lies. -/
theorem RqAt.cell {B : Nat} {ra : Option Addr} {rc : Nat} {rq : List Int} (h : RqAt w B ra rc rq) (h0 : 0 < rq.length) : ∃ g, ra = some ⟨g, 0, none⟩ ∧ g < w.heap.size ∧ ∀ j, j < rq.length → w.cell? ⟨g, j, none⟩ = some (.int .i64 (rq.getD j 0)) := by
  rcases h with ⟨rfl, _⟩ | ⟨g, cur, _, h1, _, h3, h4⟩
  · exact absurd h0 (by simp)
  · exact ⟨g, h1, h3.lt, fun j hj => by rw [h3.cell]; exact h4 j hj⟩
set_option maxRecDepth 100000 in
set_option maxHeartbeats 8000000 in
theorem sameCall_c (k co pe tg va sz ro op cl ky : Int) (rq : List Int) (n : Nat) (hn : rq.length = n) (ra rb : Option Addr) (rc rd B B' : Nat) (w : World) (ha : RqAt w B ra rc rq) (hb : RqAt w B' rb rd rq) (hl : n ≤ 1000) :
    Calls Tryd.prog 21 #[.agg #[.int .u8 k, .int .i64 co, .int .i64 pe, .int .i64 tg, .int .i64 va, .int .i64 sz, .int .i64 ro, .int .u8 op, .slice ra n rc, .int .i64 cl, .int .i64 ky], .agg #[.int .u8 k, .int .i64 co, .int .i64 pe, .int .i64 tg, .int .i64 va, .int .i64 sz, .int .i64 ro, .int .u8 op, .slice rb n rd, .int .i64 cl, .int .i64 ky]] w fun e w' => e = .returned (.bool true) ∧ Below w.heap.size w w' := by
  have b1 := (Below.refl w.heap.size w).alloc (Nat.le_refl _) (.cells #[.int .u8 k, .int .i64 co, .int .i64 pe, .int .i64 tg, .int .i64 va, .int .i64 sz, .int .i64 ro, .int .u8 op, .slice ra n rc, .int .i64 cl, .int .i64 ky] 33)
  have b2 := b1.alloc (by simp) (.cells #[.int .u8 k, .int .i64 co, .int .i64 pe, .int .i64 tg, .int .i64 va, .int .i64 sz, .int .i64 ro, .int .u8 op, .slice rb n rd, .int .i64 cl, .int .i64 ky] 33)
  have q1 := (Blk.new w 33 #[.int .u8 k, .int .i64 co, .int .i64 pe, .int .i64 tg, .int .i64 va, .int .i64 sz, .int .i64 ro, .int .u8 op, .slice ra n rc, .int .i64 cl, .int .i64 ky]).below ((Below.refl _ _).alloc (Nat.le_refl _) (.cells #[.int .u8 k, .int .i64 co, .int .i64 pe, .int .i64 tg, .int .i64 va, .int .i64 sz, .int .i64 ro, .int .u8 op, .slice rb n rd, .int .i64 cl, .int .i64 ky] 33)) (Blk.new w _ _).lt
  have q2 := Blk.new (w.alloc (.cells #[.int .u8 k, .int .i64 co, .int .i64 pe, .int .i64 tg, .int .i64 va, .int .i64 sz, .int .i64 ro, .int .u8 op, .slice ra n rc, .int .i64 cl, .int .i64 ky] 33)) 33 #[.int .u8 k, .int .i64 co, .int .i64 pe, .int .i64 tg, .int .i64 va, .int .i64 sz, .int .i64 ro, .int .u8 op, .slice rb n rd, .int .i64 cl, .int .i64 ky]
  rw [show (w.alloc (.cells #[.int .u8 k, .int .i64 co, .int .i64 pe, .int .i64 tg, .int .i64 va, .int .i64 sz, .int .i64 ro, .int .u8 op, .slice ra n rc, .int .i64 cl, .int .i64 ky] 33)).heap.size = w.heap.size + 1 by simp] at q2
  have HB := hide b2
  have HA1 := hide (ha.below b2)
  have HB1 := hide (hb.below b2)
  have HN := hide hn
  have HQ1 := hide q1
  have HQ2 := hide q2
  clear ha hb b1 b2 hn q1 q2
  go_enter Tryd.func21, Tryd.ntmps21
  go_wp2_with fail
  obtain ⟨w2, hw2⟩ : ∃ y, ((w.alloc (.cells #[.int .u8 k, .int .i64 co, .int .i64 pe, .int .i64 tg, .int .i64 va, .int .i64 sz, .int .i64 ro, .int .u8 op, .slice ra n rc, .int .i64 cl, .int .i64 ky] 33)).alloc (.cells #[.int .u8 k, .int .i64 co, .int .i64 pe, .int .i64 tg, .int .i64 va, .int .i64 sz, .int .i64 ro, .int .u8 op, .slice rb n rd, .int .i64 cl, .int .i64 ky] 33)) = y := ⟨_, rfl⟩
  rw [hw2] at HB HA1 HB1 HQ1 HQ2
  obtain ⟨sz0, hsz0⟩ : ∃ y, w.heap.size = y := ⟨_, rfl⟩
  rw [hsz0] at HQ1 HQ2
  rw [hsz0]
  try rw [hw2]
  have HSZ := hide hsz0
  clear hw2 hsz0
  go_loopw [5] (fun vi wr => ∃ i : Nat, i ≤ n ∧ vi = .int .i64 i ∧ Hid (Below w2.heap.size w2 wr)) (fun vi _ => n - (RowKit.intOf vi).toNat)
  case atStart => exact ⟨0, Nat.zero_le _, rfl, hide (Below.refl _ _)⟩
  case round =>
    obtain ⟨i, hi, rfl, HBW⟩ := hrel
    have x8 : wr.cell? ⟨sz0, 8, none⟩ = some (.slice ra n rc) := (HQ1.out.below HBW.out HQ1.out.lt).cell 8
    have y8 : wr.cell? ⟨sz0 + 1, 8, none⟩ = some (.slice rb n rd) := (HQ2.out.below HBW.out HQ2.out.lt).cell 8
    have HBF := hide (HB.out.trans (HBW.out.mono HB.out.size))
    by_cases hlt : i < n
    rotate_left
    · have hltI : ¬ (i : Int) < (n : Int) := by omega
      obtain rfl : i = n := by omega
      go_wp2_with fail
      go_ret
      exact ⟨rfl, HBF.out⟩
    · have hltI : (i : Int) < (n : Int) := by omega
      have hi0 : ¬ (i : Int) < 0 := by omega
      have hi2 : (0 : Int) ≤ (i : Int) := by omega
      have hs1 : IntKind.i64.wrap ((i : Int) + 1) = (i : Int) + 1 := by rw [IntKind.wrap_i64]; omega
      obtain ⟨g, rfl, _, hg⟩ := (HA1.out.below HBW.out).cell (by rw [HN.out]; omega)
      obtain ⟨g', rfl, _, hg'⟩ := (HB1.out.below HBW.out).cell (by rw [HN.out]; omega)
      have c1 := hg i (by rw [HN.out]; exact hlt)
      have c2 := hg' i (by rw [HN.out]; exact hlt)
      obtain ⟨z, hz⟩ : ∃ z, rq.getD i 0 = z := ⟨_, rfl⟩
      rw [hz] at c1 c2
      have HN2 := hide (HBF.out.drew)
      have HNW := hide (HBW.out.drew)
      clear hg hg' hz HB
      go_wp2_with fail
      go_region
      go_wp2_with fail
      go_roundw
      case rel => exact ⟨i + 1, by omega, by go_num, HNW⟩
      case measure => simp [RowKit.intOf] <;> omega
end
end Vm
end Go.Proofs.YtoiibphbogpojaaDoor
