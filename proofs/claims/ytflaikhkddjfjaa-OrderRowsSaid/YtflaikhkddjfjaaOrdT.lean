/- The program's ready: what goes through the events that wait for none. -/
import Derived.Test.YtflaikhkddjfjaaOrdS
import Derived.RangeFuncNested
import Derived.RangeFuncBound
import Derived.RangeFuncCalls
import Derived.RangeFuncLeaves
import Derived.RangeFuncBox
import Derived.Shelf.Abstract
import Derived.Shelf.RegionOpen
import Derived.OwnWalkIn
import Derived.TacticsInMore
import Derived.LoopNIn
import Derived.LoopIn
namespace Go.Proofs.Ytflaikhkddjfjaa
open Go.RowKit Go.Shelf
attribute [local go_sem] Oper.semAt_some
set_option linter.unusedVariables false
set_option linter.unusedSimpArgs false
namespace Ord
def readyL (wt : List Int) (k : Nat) : List Nat := (List.range k).filter fun i => wt.getD i 0 == 0
theorem readyL_succ (wt : List Int) (k : Nat) : readyL wt (k + 1) = readyL wt k ++ (if (wt.getD k 0 == 0) = true then [k] else []) := by
  unfold readyL
  rw [List.range_succ, List.filter_append]
  congr 1
  rw [List.filter_cons]
  rfl
theorem readyL_le (wt : List Int) (k : Nat) : (readyL wt k).length ≤ k := by
  have := List.length_filter_le (fun i => wt.getD i 0 == 0) (List.range k)
  unfold readyL
  simpa using this
/-- A place below len (what is yielded is one). -/
def clampN (len x : Nat) : Nat := if x < len then x else 0
theorem clampN_lt {len : Nat} (h : 0 < len) (x : Nat) : clampN len x < len := by
  unfold clampN
  split <;> omega
theorem clampN_of {len x : Nat} (h : x < len) : clampN len x = x := if_pos h
def encN (len x : Nat) : Array Value := #[Value.int .i64 (clampN len x)]
set_option maxRecDepth 100000 in
set_option maxHeartbeats 2000000 in
theorem ready1_in (n l0 Bx p g1 g2 n₀ len : Nat) (hn : 1 ≤ n) (wt : List Int) (hl : len ≤ 1000000) (J Jx : List Nat → World → Prop)
    (hY : ∀ pre x W, J pre W → pre.length < len → YieldAt Fence.wide (n - 1) Try.prog l0 (encN len x) W fun e W' =>
      (e = .returned (.bool true) ∧ J (pre ++ [x]) W' ∧ Below n₀ W W') ∨ (e = .returned (.bool false) ∧ Jx (pre ++ [x]) W'))
    (W : World) (hBx : W.cell? ⟨Bx, 0, none⟩ = some (.pointer (some ⟨p, 0, none⟩))) (hp : W.cell? ⟨p, 0, none⟩ = some (.slice (some ⟨g1, 0, none⟩) len len))
    (hg : g1 < n₀) (hc : ∀ k, k < len → W.cell? ⟨g1, k, none⟩ = some (.int .i64 (wt.getD k 0))) (h0 : J [] W) :
    CallsIn Fence.wide n Try.prog 43 #[.func (.yield l0) #[] #[], .pointer (some ⟨Bx, 0, none⟩)] W fun e W' => (∃ v, e = .returned v) ∧
      ((∃ ys, ys = readyL wt len ∧ J ys W') ∨ (∃ pre, (∃ k, k ≤ len ∧ pre = readyL wt k) ∧ Jx pre W')) := by
  have Hc := hide hc
  clear hc
  refine callsIn_of_wp Try.func43 rfl trivial ?_ rfl
  simp only [Try.ntmps43, List.size_toArray, List.length_cons, List.length_nil, Nat.reduceAdd, Nat.reduceSub, Array.replicate_succ, Array.replicate_zero, List.push_toArray, List.append_toArray, List.nil_append, List.cons_append]
  gi_wp2
  gi_loopw [10] (fun i wr => ∃ k : Nat, k ≤ len ∧ i = .int .i64 k ∧ J (readyL wt k) wr ∧ Below n₀ W wr)
    (fun i _ => len - (intOf i).toNat)
  case atStart => exact ⟨0, Nat.zero_le _, rfl, h0, Below.refl _ _⟩
  case round =>
    obtain ⟨k, hk, rfl, hJs, hkp⟩ := hrel
    by_cases hlt : k < len
    · have hltI : (k : Int) < (len : Int) := by omega
      have hc := (hkp.cell (p := ⟨g1, k, none⟩) hg).trans (Hc.out k hlt)
      have Hkp := hide hkp
      have RS := readyL_succ wt k
      by_cases hz : wt.getD k 0 = 0
      · rw [if_pos (show (wt.getD k 0 == 0) = true by rw [hz]; rfl)] at RS
        rw [hz] at hc
        obtain ⟨fn, tmps, assign, body, hy, hR⟩ := hY _ k wr hJs (by have := readyL_le wt k; omega)
        dsimp only [encN] at hy
        rw [clampN_of hlt] at hy
        have HRS := hide RS
        clear hkp RS hz
        gi_wp2
        refine hR.mono ?_
        rintro e W3 (⟨rfl, hJ3, hk3⟩ | ⟨rfl, hJx3⟩)
        · gi_wp2
          go_roundw
          case rel => exact ⟨k + 1, by omega, by go_num, by rw [HRS.out]; exact hJ3, Hkp.out.trans hk3⟩
          case measure => simp [intOf] <;> omega
        · gi_wp2
          refine bodyPost_ret (results_none rfl _ _ _) rfl ?_
          exact ⟨⟨_, rfl⟩, .inr ⟨_, ⟨k + 1, by omega, HRS.out.symm⟩, hJx3⟩⟩
      · have hzb : (wt.getD k 0 == 0) = false := beq_eq_false_iff_ne.2 hz
        rw [if_neg (show ¬ (wt.getD k 0 == 0) = true by rw [hzb]; exact Bool.noConfusion), List.append_nil] at RS
        have HRS := hide RS
        clear hkp RS hz
        generalize wt.getD k 0 = z at *
        gi_wp2
        refine ⟨fun f h => (by cases h), ?_⟩
        gi_wp2
        go_roundw
        case rel => exact ⟨k + 1, by omega, by go_num, by rw [HRS.out]; exact hJs, Hkp.out⟩
        case measure => simp [intOf] <;> omega
    · obtain rfl : k = len := by omega
      clear hkp
      gi_wp2
      go_end0
      exact ⟨⟨_, rfl⟩, .inl ⟨_, rfl, hJs⟩⟩
set_option maxHeartbeats 1000000 in
theorem ready_in (n p : Nat) (w : World) :
    CallsIn Fence.wide n Try.prog 32 #[.pointer (some ⟨p, 0, none⟩)] w fun e w' => e = .returned (.func (.func 43) #[] #[.pointer (some ⟨w.heap.size, 0, none⟩)]) ∧ w' = w.alloc (.cells #[.pointer (some ⟨p, 0, none⟩)] 69) := by
  refine callsIn_of_wp Try.func32 rfl trivial ?_ rfl
  simp only [Try.ntmps32, List.size_toArray, List.length_cons, List.length_nil, Nat.reduceAdd, Nat.reduceSub, Array.replicate_succ, Array.replicate_zero, List.push_toArray, List.append_toArray, List.nil_append, List.cons_append]
  gi_wp2
  go_ret
  exact ⟨rfl, rfl⟩
/-- ready goes through the events that wait for none, by rising places; or a beginning. -/
theorem ready_stops (n : Nat) (hn : 1 ≤ n) (Bx p g1 g2 n₀ len : Nat) (wt : List Int) (hl : len ≤ 1000000) (w : World) (hBx' : Bx < w.heap.size) (hp' : p < w.heap.size) (hg' : g1 < w.heap.size) (hg : g1 < n₀)
    (hBx : w.cell? ⟨Bx, 0, none⟩ = some (.pointer (some ⟨p, 0, none⟩))) (hp : w.cell? ⟨p, 0, none⟩ = some (.slice (some ⟨g1, 0, none⟩) len len)) (hc : ∀ k, k < len → w.cell? ⟨g1, k, none⟩ = some (.int .i64 (wt.getD k 0))) :
    SeqStopsK Fence.wide n Try.prog 43 #[.pointer (some ⟨Bx, 0, none⟩)] (encN len) (Below n₀) (fun ys => ys = readyL wt len) (fun pre => ∃ k, k ≤ len ∧ pre = readyL wt k) len w :=
  fun l0 J Jx W hW _ _ hY h0 =>
    ready1_in n l0 Bx p g1 g2 n₀ len hn wt hl J Jx hY W ((hW.cell (p := ⟨Bx, 0, none⟩) hBx').trans hBx) ((hW.cell (p := ⟨p, 0, none⟩) hp').trans hp) hg (fun k hk => (hW.cell (p := ⟨g1, k, none⟩) hg').trans (hc k hk)) h0
end Ord
end Go.Proofs.Ytflaikhkddjfjaa
