/- The contracts of what goes through two clocks together: whether two may be, the pairs of their numbers. -/
import Derived.Test.YtflaikhkddjfjaaCloD
import Derived.RangeFuncNested
import Derived.RangeFuncBound
import Derived.RangeFuncCalls
import Derived.RangeFuncLeaves
import Derived.RangeFuncBox
import Derived.Shelf.Abstract
import Derived.Shelf.RegionOpen
import Derived.OwnWalkIn
import Derived.TacticsInMore
import Derived.LoopNIn
import Derived.LoopIn
namespace Go.Proofs.Ytflaikhkddjfjaa
open Go.RowKit Go.Shelf
attribute [local go_sem] Oper.semAt_some
set_option linter.unusedVariables false
set_option linter.unusedSimpArgs false

def may2B (l m : List Int) : Bool := decide (l.length = m.length) && (mayB l && mayB m)
theorem may2B_yes {l m : List Int} (h : may2B l m = true) : l.length = m.length ∧ mayB l = true ∧ mayB m = true := by
  simpa [may2B] using h

set_option maxRecDepth 100000 in
set_option maxHeartbeats 1000000 in
theorem may2_a (A A' : Option Addr) (l m : List Int) (cap cap' B B' : Nat) (w : World) (hr : Rd w B A l) (hr' : Rd w B' A' m) (hm : l.length ≤ maxLen) (hm' : m.length ≤ maxLen) :
    Calls Try.prog 40 #[.slice A l.length cap, .slice A' m.length cap'] w fun e w' => e = .returned (.bool (may2B l m)) ∧ w = w' := by
  have Hr := hide hr
  have Hr' := hide hr'
  clear hr hr'
  by_cases hl : l.length = m.length
  · have hlb : ((l.length : Int) == (m.length : Int)) = true := by rw [beq_iff_eq]; omega
    have Hl := hide hl
    clear hl
    by_cases h1 : mayB l = true
    · have H1 := hide h1
      clear h1
      go_enter Try.func40, Try.ntmps40
      go_wp2_with fail
      refine (may_a _ _ _ _ _ Hr.out hm).mono ?_
      rw [H1.out]
      rintro e w' ⟨rfl, rfl⟩
      go_wp2_with fail
      refine (may_a _ _ _ _ _ Hr'.out hm').mono ?_
      rintro e w' ⟨rfl, rfl⟩
      go_wp2
      go_ret
      exact ⟨ret_bool (by simp [may2B, H1.out, Hl.out]), rfl⟩
    · have H1 := hide (show mayB l = false by simpa using h1)
      clear h1
      go_enter Try.func40, Try.ntmps40
      go_wp2_with fail
      refine (may_a _ _ _ _ _ Hr.out hm).mono ?_
      rw [H1.out]
      rintro e w' ⟨rfl, rfl⟩
      go_wp2
      go_ret
      exact ⟨ret_bool (by simp [may2B, H1.out]), rfl⟩
  · have hlb : ((l.length : Int) == (m.length : Int)) = false := by rw [beq_eq_false_iff_ne]; omega
    have Hl := hide hl
    clear hl
    go_enter Try.func40, Try.ntmps40
    go_wp2
    go_ret
    exact ⟨ret_bool (by simp [may2B, Hl.out]), rfl⟩

/-- What has come when k rounds are over. -/
def upto {α : Type} (f : Nat → α) (k : Nat) : List α := (List.range k).map f
theorem upto_succ {α : Type} (f : Nat → α) (k : Nat) : upto f (k + 1) = upto f k ++ [f k] := by simp [upto, List.range_succ]
theorem upto_length {α : Type} (f : Nat → α) (k : Nat) : (upto f k).length = k := by simp [upto]
def pr (l m : List Int) (k : Nat) : Int × Int := (l.getD k 0, m.getD k 0)
/-- What a round keeps: all below n₀, and the box of the second row. -/
def KpB (n₀ Bd : Nat) (dv : Value) (W W' : World) : Prop := Below n₀ W W' ∧ (Boxed W Bd 30 dv → Boxed W' Bd 30 dv)
theorem kpB_t {n₀ Bd : Nat} {dv : Value} {A B C : World} (h : KpB n₀ Bd dv A B) (k : KpB n₀ Bd dv B C) : KpB n₀ Bd dv A C := ⟨h.1.trans k.1, fun e => k.2 (h.2 e)⟩
theorem kpB_b {n₀ Bd : Nat} {dv : Value} {w : World} (hn : n₀ ≤ w.heap.size) (W : World) (l : Nat) (o o' : Obj) (hl : w.heap.size ≤ l) (h : W.heap[l]? = some o) (ho : o.isCells = false) (hw : o.isWalk = false) : KpB n₀ Bd dv W (W.putObj l o') :=
  ⟨belowK_b hn W l o o' hl h ho hw, fun e => e.kept (grownBy_putObj' W l o') (fun e' => by
    injection e' with e'
    subst e'
    rw [show W.heap[Bd]? = _ from e] at h
    injection h with h
    subst h
    cases ho)⟩
def encP (x : Int × Int) : Array Value := #[Value.int .i64 x.1, Value.int .i64 x.2]

set_option maxRecDepth 100000 in
set_option maxHeartbeats 2000000 in
theorem pairs1_in (n l0 Bc Bd n₀ cap cap' : Nat) (hn : 1 ≤ n) (A A' : Option Addr) (l m : List Int) (hlm : l.length = m.length) (hm : l.length ≤ 1000000) (J Jx : List (Int × Int) → World → Prop)
    (hY : ∀ pre x W, J pre W → pre.length < l.length → YieldAt Fence.wide (n - 1) Try.prog l0 (encP x) W fun e W' =>
      (e = .returned (.bool true) ∧ J (pre ++ [x]) W' ∧ KpB n₀ Bd (.slice A' m.length cap') W W') ∨ (e = .returned (.bool false) ∧ Jx (pre ++ [x]) W'))
    (W : World) (hBc : W.cell? ⟨Bc, 0, none⟩ = some (.slice A l.length cap)) (hBd : Boxed W Bd 30 (.slice A' m.length cap'))
    (hr : Rd W n₀ A l) (hr' : Rd W n₀ A' m) (h0 : J [] W) :
    CallsIn Fence.wide n Try.prog 47 #[.func (.yield l0) #[] #[], .pointer (some ⟨Bc, 0, none⟩), .pointer (some ⟨Bd, 0, none⟩)] W fun e W' => (∃ v, e = .returned v) ∧
      ((∃ ys, ys = upto (pr l m) l.length ∧ J ys W') ∨ (∃ pre, (∃ k, k ≤ l.length ∧ pre = upto (pr l m) k) ∧ Jx pre W')) := by
  have Hr := hide hr
  have Hr' := hide hr'
  have Hlm := hide hlm
  clear hr hr' hlm
  refine callsIn_of_wp Try.func47 rfl trivial ?_ rfl
  simp only [Try.ntmps47, List.size_toArray, List.length_cons, List.length_nil, Nat.reduceAdd, Nat.reduceSub, Array.replicate_succ, Array.replicate_zero, List.push_toArray, List.append_toArray, List.nil_append, List.cons_append]
  gi_wp2
  gi_loopw [8] (fun i wr => ∃ k : Nat, k ≤ l.length ∧ i = .int .i64 k ∧ J (upto (pr l m) k) wr ∧ KpB n₀ Bd (.slice A' m.length cap') W wr)
    (fun i _ => l.length - (intOf i).toNat)
  case atStart => exact ⟨0, Nat.zero_le _, rfl, h0, Below.refl _ _, fun e => e⟩
  case round =>
    obtain ⟨k, hk, rfl, hJs, hkp⟩ := hrel
    by_cases hlt : k < l.length
    · have hlt' : k < m.length := by have := Hlm.out; omega
      have hBd' := (hkp.2 hBd).cell
      have h1 := Hr.out.below hkp.1
      have h2 := Hr'.out.below hkp.1
      obtain ⟨ad, rfl, hb, hc⟩ := rd_at h1 hlt
      obtain ⟨ad', rfl, hb', hc'⟩ := rd_at h2 hlt'
      obtain ⟨fn, tmps, assign, body, hy, hR⟩ := hY _ (pr l m k) wr hJs (by rw [upto_length]; exact hlt)
      dsimp only [encP, pr] at hy
      have Hkp := hide hkp
      clear hkp h1 h2 hBd
      generalize l.getD k 0 = x at *
      generalize m.getD k 0 = y at *
      gi_wp2
      refine hR.mono ?_
      rintro e W3 (⟨rfl, hJ3, hk3⟩ | ⟨rfl, hJx3⟩)
      · gi_wp2
        go_roundw
        case rel => exact ⟨k + 1, by omega, by go_num, by rw [upto_succ]; exact hJ3, kpB_t Hkp.out hk3⟩
        case measure => simp [intOf]; omega
      · gi_wp2
        refine bodyPost_ret (results_none rfl _ _ _) rfl ?_
        exact ⟨⟨_, rfl⟩, .inr ⟨_, ⟨k + 1, by omega, (upto_succ _ _).symm⟩, hJx3⟩⟩
    · obtain rfl : k = l.length := by omega
      clear hkp
      gi_wp2
      go_end0
      exact ⟨⟨_, rfl⟩, .inl ⟨_, rfl, hJs⟩⟩

set_option maxHeartbeats 1000000 in
theorem pairs_in (n : Nat) (v v' : Value) (hv : v.oneCell' = true) (hv' : v'.oneCell' = true) (w : World) (A A' : Option Addr) (c c' d d' : Nat) (e1 : v = .slice A c d) (e2 : v' = .slice A' c' d') :
    CallsIn Fence.wide n Try.prog 41 #[v, v'] w fun e w' => e = .returned (.func (.func 47) #[] #[.pointer (some ⟨w.heap.size, 0, none⟩), .pointer (some ⟨w.heap.size + 1, 0, none⟩)]) ∧
      w' = (w.alloc (.cells #[v] 30)).alloc (.cells #[v'] 30) := by
  subst e1 e2
  refine callsIn_of_wp Try.func41 rfl trivial ?_ rfl
  simp only [Try.ntmps41, List.size_toArray, List.length_cons, List.length_nil, Nat.reduceAdd, Nat.reduceSub, Array.replicate_succ, Array.replicate_zero, List.push_toArray, List.append_toArray, List.nil_append, List.cons_append]
  gi_wp2
  go_ret
  exact ⟨rfl, rfl⟩

/-- **pairs(c, d) hands back what goes through the pairs of their numbers**, in order; or a beginning. -/
theorem pairs_stops (n : Nat) (hn : 1 ≤ n) (Bc Bd n₀ cap cap' : Nat) (A A' : Option Addr) (l m : List Int) (hlm : l.length = m.length) (hm : l.length ≤ 1000000) (w : World) (hBc' : Bc < w.heap.size) (hBd' : Bd < w.heap.size) (hn₀ : n₀ ≤ w.heap.size)
    (hBc : w.cell? ⟨Bc, 0, none⟩ = some (.slice A l.length cap)) (hBd : Boxed w Bd 30 (.slice A' m.length cap')) (hr : Rd w n₀ A l) (hr' : Rd w n₀ A' m) :
    SeqStopsK Fence.wide n Try.prog 47 #[.pointer (some ⟨Bc, 0, none⟩), .pointer (some ⟨Bd, 0, none⟩)] encP (KpB n₀ Bd (.slice A' m.length cap')) (fun ys => ys = upto (pr l m) l.length) (fun pre => ∃ k, k ≤ l.length ∧ pre = upto (pr l m) k) l.length w :=
  fun l0 J Jx W hW _ _ hY h0 =>
    pairs1_in n l0 Bc Bd n₀ cap cap' hn A A' l m hlm hm J Jx hY W ((hW.cell (p := ⟨Bc, 0, none⟩) hBc').trans hBc) ((hW.block Bd hBd').trans hBd) (hr.below (hW.mono hn₀)) (hr'.below (hW.mono hn₀)) h0
end Go.Proofs.Ytflaikhkddjfjaa
