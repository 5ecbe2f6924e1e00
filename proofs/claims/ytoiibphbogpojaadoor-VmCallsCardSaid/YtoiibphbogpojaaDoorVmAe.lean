/- Two runs that came to the same. -/
import Derived.Test.YtoiibphbogpojaaDoorRows
import Derived.Test.YtoiibphbogpojaaDoorVmAd
namespace Go.Proofs.YtoiibphbogpojaaDoor
open Go Go.RowKit Go.Lib Go.Proofs.YtoiibphbogpojaaDoor.Cod
set_option linter.unusedVariables false
set_option linter.unusedSimpArgs false
namespace Vm
set_option maxRecDepth 100000 in
set_option maxHeartbeats 8000000 in
theorem sameOut_0 (k co pe tg va sz ro op cl ky : Int) (rq : List Int) (n : Nat) (hn : rq.length = n) (ra rb : Option Addr) (rc rd B B' : Nat) (w : World) (ha : RqAt w B ra rc rq) (hb : RqAt w B' rb rd rq) (hl : n ≤ 1000) :
    Calls Tryd.prog 11 #[.agg #[.int .u8 1, .int .u8 k, .int .i64 co, .int .i64 pe, .int .i64 tg, .int .i64 va, .int .i64 sz, .int .i64 ro, .int .u8 op, .slice ra n rc, .int .i64 cl, .int .i64 ky, .int .u8 0], .agg #[.int .u8 1, .int .u8 k, .int .i64 co, .int .i64 pe, .int .i64 tg, .int .i64 va, .int .i64 sz, .int .i64 ro, .int .u8 op, .slice rb n rd, .int .i64 cl, .int .i64 ky, .int .u8 0]] w fun e w' => e = .returned (.bool true) ∧ Below w.heap.size w w' := by
  have b2 := ((Below.refl w.heap.size w).alloc (Nat.le_refl _) (.cells #[.int .u8 1, .int .u8 k, .int .i64 co, .int .i64 pe, .int .i64 tg, .int .i64 va, .int .i64 sz, .int .i64 ro, .int .u8 op, .slice ra n rc, .int .i64 cl, .int .i64 ky, .int .u8 0] 35)).alloc (by simp) (.cells #[.int .u8 1, .int .u8 k, .int .i64 co, .int .i64 pe, .int .i64 tg, .int .i64 va, .int .i64 sz, .int .i64 ro, .int .u8 op, .slice rb n rd, .int .i64 cl, .int .i64 ky, .int .u8 0] 35)
  have HB := hide b2
  have SC := hide (fun (w1 : World) (h : Below w.heap.size w w1) => sameCall_c k co pe tg va sz ro op cl ky rq n hn ra rb rc rd B B' w1 (ha.below h) (hb.below h) hl)
  clear ha hb b2 hn hl
  go_enter Tryd.func11, Tryd.ntmps11
  go_wp2_with fail
  refine (SC.out _ HB.out).mono ?_
  rintro e w' ⟨rfl, h⟩
  have HF := hide (HB.out.trans (h.mono HB.out.size))
  clear h
  go_wp2_with fail
  go_ret
  exact ⟨rfl, HF.out⟩
theorem sameOut_c (C : Cl) (ra rb : Option Addr) (rc rd B B' : Nat) (w : World) (ha : RqAt w B ra rc C.rq) (hb : RqAt w B' rb rd C.rq) (hl : C.rq.length ≤ 1000) :
    Calls Tryd.prog 11 #[.agg (C.O ra rc), .agg (C.O rb rd)] w fun e w' => e = .returned (.bool true) ∧ Below w.heap.size w w' := by
  obtain ⟨k, co, pe, tg, va, sz, ro, op, cl, ky, rq⟩ := C
  exact sameOut_0 k co pe tg va sz ro op cl ky rq rq.length rfl ra rb rc rd B B' w ha hb hl
end Vm
end Go.Proofs.YtoiibphbogpojaaDoor
