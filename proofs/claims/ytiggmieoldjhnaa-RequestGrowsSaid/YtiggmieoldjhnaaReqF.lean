/- The program's asked: what goes through the requests that a row names. -/
import Derived.Test.YtiggmieoldjhnaaRows
import Derived.Test.YtiggmieoldjhnaaReqE
import Derived.RangeFuncNested
import Derived.RangeFuncBound
import Derived.RangeFuncCalls
import Derived.RangeFuncLeaves
import Derived.RangeFuncBox
import Derived.Shelf.Abstract
import Derived.Shelf.RegionOpen
import Derived.OwnWalkIn
import Derived.TacticsInMore
import Derived.LoopNIn
import Derived.LoopIn
namespace Go.Proofs.Ytiggmieoldjhnaa
open Go Go.RowKit Go.Shelf Go.Proofs.Ytiggmieoldjhnaa.Grp
attribute [local go_sem] Oper.semAt_some
set_option linter.unusedVariables false
set_option linter.unusedSimpArgs false
namespace Req
/-- The blocks that p names are as they were. -/
def KO (p : Nat → Prop) (W W' : World) : Prop := W.heap.size ≤ W'.heap.size ∧ ∀ k, p k → W'.heap[k]? = W.heap[k]?
theorem KO.refl (p : Nat → Prop) (W : World) : KO p W W := ⟨Nat.le_refl _, fun _ _ => rfl⟩
theorem KO.trans {p : Nat → Prop} {A B C : World} (h : KO p A B) (k : KO p B C) : KO p A C := ⟨Nat.le_trans h.1 k.1, fun j hj => (k.2 j hj).trans (h.2 j hj)⟩
theorem KO.put {p : Nat → Prop} {w : World} (hn : ∀ k, p k → k < w.heap.size) (W : World) (l : Nat) (x x' : Obj) (hl : w.heap.size ≤ l) (h : W.heap[l]? = some x) (_ : x.isCells = false) (_ : x.isWalk = false) : KO p W (W.putObj l x') :=
  ⟨by simp, fun j hj => World.putObj_heap_other (by have := hn j hj; omega)⟩
theorem KO.cell {p : Nat → Prop} {W W' : World} (h : KO p W W') {a : Addr} (hp : p a.block) : W'.cell? a = W.cell? a := World.cell?_of_block (w := W) (h.2 a.block hp)
/-- A place of the row l, and the request that stands there. -/
structure Pl (nr : Nat) (l : List Int) where
  p : Nat
  i : Nat
  hp : p < l.length
  hi : i < nr
  he : l.getD p 0 = (i : Int)
def encR (o : Nat) {nr : Nat} {l : List Int} (x : Pl nr l) : Array Value := #[.int .i64 x.p, .pointer (some ⟨o, x.i * 6, none⟩)]
def askL (nr : Nat) (l : List Int) : Nat → List (Pl nr l)
  | 0 => []
  | k + 1 => askL nr l k ++ (if h : k < l.length ∧ 0 ≤ l.getD k 0 ∧ l.getD k 0 < nr then [⟨k, (l.getD k 0).toNat, h.1, by omega, by omega⟩] else [])
theorem askL_len (nr : Nat) (l : List Int) : ∀ k, (askL nr l k).length ≤ k
  | 0 => Nat.le_refl _
  | k + 1 => by
    have := askL_len nr l k
    unfold askL
    rw [List.length_append]
    split <;> simp <;> omega
theorem askL_yes {nr : Nat} {l : List Int} {k y : Nat} (hk : k < l.length) (hy : y < nr) (he : l.getD k 0 = (y : Int)) : askL nr l (k + 1) = askL nr l k ++ [⟨k, y, hk, hy, he⟩] := by
  rw [askL, dif_pos ⟨hk, by omega, by omega⟩]
  congr 2
  have : (l.getD k 0).toNat = y := by omega
  simp only [this]
theorem askL_no {nr : Nat} {l : List Int} {k : Nat} (h : ¬ (0 ≤ l.getD k 0 ∧ l.getD k 0 < nr)) : askL nr l (k + 1) = askL nr l k := by
  rw [askL, dif_neg (fun hh => h hh.2), List.append_nil]
theorem asked_in (t A : Option Addr) (n c : Nat) (m : Nat) (w : World) : CallsIn Fence.wide m Try.prog 21 #[.pointer t, .slice A n c] w fun e w' =>
    e = .returned (.func (.func 26) #[] #[.pointer (some ⟨w.heap.size, 0, none⟩), .pointer (some ⟨w.heap.size + 1, 0, none⟩)]) ∧ w' = (w.alloc (.cells #[.pointer t] 25)).alloc (.cells #[.slice A n c] 27) := by
  refine callsIn_of_wp Try.func21 rfl trivial ?_ rfl
  simp only [Try.ntmps21, List.size_toArray, List.length_cons, List.length_nil, Nat.reduceAdd, Nat.reduceSub, Array.replicate_succ, Array.replicate_zero, List.push_toArray, List.append_toArray, List.nil_append, List.cons_append]
  gi_wp2
  go_ret
  exact ⟨rfl, rfl⟩
theorem there_q (T : Nat) (O : Option Addr) (oc nr : Nat) (i : Int) (w : World) (c1 : w.cell? ⟨T, 1, none⟩ = some (.slice O nr oc)) : Calls Try.prog 25 #[.pointer (some ⟨T, 0, none⟩), .int .i64 i] w fun e w' => e = .returned (.bool (decide (0 ≤ i ∧ i < nr))) ∧ w = w' := by
  by_cases h0 : 0 ≤ i
  · by_cases hI : i < (nr : Int)
    · rw [decide_eq_true ⟨h0, hI⟩]
      go_enter Try.func25, Try.ntmps25
      go_wp2_with fail
      go_ret
      exact ⟨by simp, rfl⟩
    · rw [decide_eq_false (fun h => hI h.2)]
      go_enter Try.func25, Try.ntmps25
      go_wp2_with fail
      go_ret
      exact ⟨by simp, rfl⟩
  · rw [decide_eq_false (fun h => h0 h.1)]
    go_enter Try.func25, Try.ntmps25
    go_wp2_with fail
    go_ret
    exact ⟨by simp, rfl⟩
set_option maxRecDepth 100000 in
set_option maxHeartbeats 4000000 in
theorem asked1_in (n l0 Bt Bl T o oc nr : Nat) (q₀ : Nat → Prop) (O A : Option Addr) (cap : Nat) (l : List Int) (hn : 1 ≤ n) (hl : l.length ≤ 1000) (J Jx : List (Pl nr l) → World → Prop)
    (hY : ∀ pre x W, J pre W → pre.length < l.length → YieldAt Fence.wide (n - 1) Try.prog l0 (encR o x) W fun e W' =>
      (e = .returned (.bool true) ∧ J (pre ++ [x]) W' ∧ KO q₀ W W') ∨ (e = .returned (.bool false) ∧ Jx (pre ++ [x]) W'))
    (W : World) (hBt : W.cell? ⟨Bt, 0, none⟩ = some (.pointer (some ⟨T, 0, none⟩))) (hBl : W.cell? ⟨Bl, 0, none⟩ = some (.slice A l.length cap)) (hT0 : W.cell? ⟨T, 0, none⟩ = some (.bool true)) (hT1 : W.cell? ⟨T, 1, none⟩ = some (.slice O nr oc))
    (hO : 0 < nr → O = some ⟨o, 0, none⟩) (hr : NRow W A l) (k1 : q₀ Bt) (k2 : q₀ Bl) (k3 : q₀ T) (k4 : 0 < l.length → ∀ a, A = some a → q₀ a.block) (h0 : J [] W) :
    CallsIn Fence.wide n Try.prog 26 #[.func (.yield l0) #[] #[], .pointer (some ⟨Bt, 0, none⟩), .pointer (some ⟨Bl, 0, none⟩)] W fun e W' => (∃ v, e = .returned v) ∧
      ((∃ ys, ys = askL nr l l.length ∧ J ys W') ∨ (∃ pre, (∃ k, k ≤ l.length ∧ pre = askL nr l k) ∧ Jx pre W')) := by
  have MC := hide (made_c T W hT0)
  have HR := hide hr
  have CT := hide (fun (W' : World) (hk : KO q₀ W W') => (hk.cell (a := ⟨Bt, 0, none⟩) k1).trans hBt)
  have CL := hide (fun (W' : World) (hk : KO q₀ W W') => (hk.cell (a := ⟨Bl, 0, none⟩) k2).trans hBl)
  have C1 := hide (fun (W' : World) (hk : KO q₀ W W') => (hk.cell (a := ⟨T, 1, none⟩) k3).trans hT1)
  have HO := hide hO
  have K4 := hide k4
  clear hr hT0 hT1 hO k1 k2 k3 k4
  refine callsIn_of_wp Try.func26 rfl trivial ?_ rfl
  simp only [Try.ntmps26, List.size_toArray, List.length_cons, List.length_nil, Nat.reduceAdd, Nat.reduceSub, Array.replicate_succ, Array.replicate_zero, List.push_toArray, List.append_toArray, List.nil_append, List.cons_append]
  gi_wp2_with (refine ⟨trivial, ?_⟩; gi_at_call 20; refine (callsIn_wide.2 MC.out).mono ?_; rintro e w' ⟨rfl, rfl⟩)
  gi_loopw [11] (fun i wr => ∃ k : Nat, k ≤ l.length ∧ i = .int .i64 k ∧ J (askL nr l k) wr ∧ KO q₀ W wr)
    (fun i _ => l.length - (intOf i).toNat)
  case atStart => exact ⟨0, Nat.zero_le _, rfl, h0, KO.refl _ _⟩
  case round =>
    obtain ⟨k, hk, rfl, hJs, hkp⟩ := hrel
    rename World => wr
    by_cases hlt : k < l.length
    · have hltI : (k : Int) < (l.length : Int) := by omega
      have q0 := CT.out wr hkp
      have q1 := CL.out wr hkp
      have q2 := C1.out wr hkp
      obtain ⟨a, rfl, ha, hc⟩ := HR.out (by omega)
      have hcx := (hkp.cell (a := a.add k) (by rw [block_of_add]; exact K4.out (by omega) a rfl)).trans (hc k hlt)
      have TQ := hide (there_q T O oc nr (l.getD k 0) wr q2)
      have Hkp := hide hkp
      by_cases hz : 0 ≤ l.getD k 0 ∧ l.getD k 0 < nr
      · obtain ⟨y, hy⟩ : ∃ y : Nat, l.getD k 0 = (y : Int) := ⟨(l.getD k 0).toNat, by omega⟩
        rw [decide_eq_true hz] at TQ
        rw [hy] at hz hcx TQ
        have hyl : y < nr := by omega
        have hyI : (y : Int) < (nr : Int) := by omega
        have hOs := HO.out (by omega)
        subst hOs
        obtain ⟨q, hqe, hRS⟩ : ∃ q : Pl nr l, encR o q = #[.int .i64 k, .pointer (some ⟨o, y * 6, none⟩)] ∧ askL nr l (k + 1) = askL nr l k ++ [q] := ⟨⟨k, y, hlt, hyl, hy⟩, rfl, askL_yes hlt hyl hy⟩
        have HRS := hide hRS
        obtain ⟨fn, tmps, assign, body, hyy, hR⟩ := hY _ q wr hJs (by have := askL_len nr l k; omega)
        rw [hqe] at hyy
        clear hqe hRS
        clear hkp hz hy hc
        gi_wp2_with (refine ⟨trivial, ?_⟩; gi_at_call 25; refine (callsIn_wide.2 TQ.out).mono ?_; rintro e w' ⟨rfl, rfl⟩)
        refine hR.mono ?_
        rintro e W3 (⟨rfl, hJ3, hk3⟩ | ⟨rfl, hJx3⟩)
        · have HK3 := hide hk3
          clear hk3
          gi_wp2
          go_roundw
          case rel => exact ⟨k + 1, by omega, by go_num, by rw [HRS.out]; exact hJ3, Hkp.out.trans HK3.out⟩
          case measure => simp [intOf] <;> omega
        · gi_wp2
          refine bodyPost_ret (results_none rfl _ _ _) rfl ?_
          exact ⟨⟨_, rfl⟩, .inr ⟨_, ⟨k + 1, by omega, HRS.out.symm⟩, hJx3⟩⟩
      · have HRS := hide (askL_no hz)
        rw [decide_eq_false hz] at TQ
        clear hkp hz hc
        generalize l.getD k 0 = z at *
        gi_wp2_with (refine ⟨trivial, ?_⟩; gi_at_call 25; refine (callsIn_wide.2 TQ.out).mono ?_; rintro e w' ⟨rfl, rfl⟩)
        refine ⟨fun f h => (by cases h), ?_⟩
        gi_wp2
        go_roundw
        case rel => exact ⟨k + 1, by omega, by go_num, by rw [HRS.out]; exact hJs, Hkp.out⟩
        case measure => simp [intOf] <;> omega
    · obtain rfl : k = l.length := by omega
      have hltI : ¬ (l.length : Int) < (l.length : Int) := by omega
      clear hkp
      gi_wp2
      go_end0
      first | exact ⟨⟨_, rfl⟩, .inl ⟨_, rfl, hJs⟩⟩ | exact ⟨⟨_, rfl⟩, .inl hJs⟩
/-- asked goes through the places of the row whose requests are there, by rising places; or a beginning. -/
theorem asked_stops (n : Nat) (hn : 1 ≤ n) (Bt Bl T o oc nr : Nat) (q₀ : Nat → Prop) (O A : Option Addr) (cap : Nat) (l : List Int) (hl : l.length ≤ 1000) (w : World) (hlt : ∀ k, q₀ k → k < w.heap.size)
    (hBt : w.cell? ⟨Bt, 0, none⟩ = some (.pointer (some ⟨T, 0, none⟩))) (hBl : w.cell? ⟨Bl, 0, none⟩ = some (.slice A l.length cap)) (hT0 : w.cell? ⟨T, 0, none⟩ = some (.bool true)) (hT1 : w.cell? ⟨T, 1, none⟩ = some (.slice O nr oc))
    (hO : 0 < nr → O = some ⟨o, 0, none⟩) (hr : NRow w A l) (k1 : q₀ Bt) (k2 : q₀ Bl) (k3 : q₀ T) (k4 : 0 < l.length → ∀ a, A = some a → q₀ a.block) :
    SeqStopsK Fence.wide n Try.prog 26 #[.pointer (some ⟨Bt, 0, none⟩), .pointer (some ⟨Bl, 0, none⟩)] (encR (nr := nr) (l := l) o) (KO q₀) (fun ys => ys = askL nr l l.length) (fun pre => ∃ k, k ≤ l.length ∧ pre = askL nr l k) l.length w :=
  fun l0 J Jx W hW _ _ hY h0 =>
    asked1_in n l0 Bt Bl T o oc nr q₀ O A cap l hn hl J Jx hY W ((hW.cell (p := ⟨Bt, 0, none⟩) (hlt _ k1)).trans hBt) ((hW.cell (p := ⟨Bl, 0, none⟩) (hlt _ k2)).trans hBl) ((hW.cell (p := ⟨T, 0, none⟩) (hlt _ k3)).trans hT0) ((hW.cell (p := ⟨T, 1, none⟩) (hlt _ k3)).trans hT1) hO (hr.below hW) k1 k2 k3 k4 h0
end Req
end Go.Proofs.Ytiggmieoldjhnaa
