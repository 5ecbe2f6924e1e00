/- What both orders tell, side by side. -/
import Derived.Test.YtflaikhkddjfjaaRows
import Derived.Test.YtflaikhkddjfjaaOrdL
namespace Go.Proofs.Ytflaikhkddjfjaa
open Go Go.RowKit
set_option linter.unusedVariables false
set_option linter.unusedSimpArgs false
namespace Ord
variable {n len : Nat} {F : Nat → Ec} {w : World} {D o o' : Nat} {es : List Eo} {gs : List Nat}
theorem ahB_self (E : Nat → Ev) (i : Nat) : ahB E i i = false := by
  cases h : ahB E i i with
  | false => rfl
  | true => exact absurd (ahB_iff.1 h).lt (Nat.lt_irrefl i)
theorem inB_yes {i : Nat} (h : i < es.length) : inB es i = true := decide_eq_true (by omega)
theorem Both.ahead (h : Both n len F w D o o' es gs) {i k : Nat} (hi : i < len) (hk : k < len) : aheadB es i k = ahB (evN F) k i := by
  have hi' : i < es.length := by rw [h.el]; exact hi
  have hk' : k < es.length := by rw [h.el]; exact hk
  unfold aheadB
  rw [inB_yes hi', inB_yes hk', Bool.true_and, Bool.true_and, Int.toNat_natCast, Int.toNat_natCast]
  by_cases e : i = k
  · subst e
    rw [ahB_self]
    simp
  · have hne : (i : Int) ≠ (k : Int) := by omega
    refine bool_ext ?_
    rw [Bool.and_eq_true, decide_eq_true_eq, decide_eq_true_eq, ahB_iff, ← (h.s.t i hi').ahead (h.s.t k hk') e, (h.s.r i hi').1]
    have p1 := h.s.pos i hi' (evN F i).r
    have p2 := h.s.pos k hk' (evN F i).r
    refine ⟨fun h => ?_, fun h => ⟨hne, ?_⟩⟩
    · have := h.2
      omega
    · omega
theorem Both.clock (h : Both n len F w D o o' es gs) {i : Nat} (hi : i < len) : (es.getD i default).ck = clkL n (evN F) i len := by
  have hi' : i < es.length := by rw [h.el]; exact hi
  refine list_ext (by rw [h.s.len i hi', clkL_len]) fun q hq => ?_
  rw [h.s.len i hi'] at hq
  have T := (h.s.t i hi').eq (tells_count (ahB (evN F) i) (fun m => ahB_iff) len (Nat.le_of_lt hi)) q
  have p := h.s.pos i hi' q
  rw [clkL_at hq]
  have T : ((es.getD i default).ck.getD q 0).toNat = cnt (evN F) q (ahB (evN F) i) len + (if (evN F i).r = q then 1 else 0) := T
  rw [← T]
  omega
theorem Both.ranks (h : Both n len F w D o o' es gs) {i : Nat} (hi : i < len) : (evN F i).r < n := (h.s.r i (by rw [h.el]; exact hi)).2
theorem Both.depth (h : Both n len F w D o o' es gs) {i : Nat} (hi : i < len) : Deep (evN F) (fun k => (es.getD k default).d) i := h.s.d i (by rw [h.el]; exact hi)
theorem Both.depth_le (h : Both n len F w D o o' es gs) {i : Nat} (hi : i < len) : (es.getD i default).d ≤ 120 := by
  have := (h.fit.at_ (k := i) (by rw [h.el]; exact hi)).2
  have := h.fit.le
  omega
end Ord
end Go.Proofs.Ytflaikhkddjfjaa
