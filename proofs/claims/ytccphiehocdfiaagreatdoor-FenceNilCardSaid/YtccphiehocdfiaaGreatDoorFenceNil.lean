/- The walk of the statement FenceNil: of any number; without conditions. -/
import Derived.Test.YtccphiehocdfiaaGreatDoorRows
import Derived.Test.YtccphiehocdfiaaGreatDoorStructs
import Derived.RangeFuncNested
import Derived.RangeFuncBound
import Derived.RangeFuncCalls
import Derived.RangeFuncLeaves
import Derived.RangeFuncBox
import Derived.Shelf.Abstract
import Derived.Shelf.RegionOpen
import Derived.OwnWalkIn
import Derived.TacticsInMore
import Derived.LoopNIn
import Derived.LoopIn
import Derived.Deep.RegionHeld3
import Derived.Deep.CutRange
import Derived.Laws.Cover3
namespace Go.Proofs.YtccphiehocdfiaaGreatDoor.FenceNilW
open Go.RowKit Go.Shelf Go.Proofs.YtccphiehocdfiaaGreatDoor
attribute [local go_sem] Oper.semAt_some
set_option linter.unusedVariables false
set_option linter.unusedSimpArgs false

/-- A state that nobody made: nil, or one without a core. -/
def NM (w : World) (t : Option Addr) : Prop := t = none ∨ ∃ g, t = some ⟨g, 0, none⟩ ∧ g < w.heap.size ∧ w.cell? ⟨g, 9, none⟩ = some (.pointer none)
theorem NM.below {w w' : World} {t : Option Addr} (h : NM w t) (hb : Below w.heap.size w w') : NM w' t := by
  rcases h with rfl | ⟨g, rfl, hg, hc⟩
  · exact .inl rfl
  · exact .inr ⟨g, rfl, Nat.lt_of_lt_of_le hg hb.size, (hb.cell (p := ⟨g, 9, none⟩) hg).trans hc⟩
theorem NM.alloc {w : World} {t : Option Addr} (h : NM w t) (o : Obj) : NM (w.alloc o) t := h.below ((Below.refl _ _).alloc (Nat.le_refl _) o)

set_option maxRecDepth 100000 in
theorem made_no (t : Option Addr) (w : World) (h : NM w t) : Calls Tryz.prog 62 #[.pointer t] w fun e w' => e = .returned (.bool false) ∧ w = w' := by
  rcases h with rfl | ⟨g, rfl, hg, hc⟩
  all_goals
    go_enter Tryz.func62, Tryz.ntmps62
    go_wp2
    go_ret
    exact ⟨rfl, rfl⟩
set_option maxRecDepth 100000 in
theorem there_no (t : Option Addr) (i : Int) (w : World) (h : NM w t) : Calls Tryz.prog 61 #[.pointer t, .int .i64 i] w fun e w' => e = .returned (.bool false) ∧ w = w' := by
  have H := hide h
  clear h
  go_enter Tryz.func61, Tryz.ntmps61
  go_wp2_with (go_at_call 62; refine (made_no _ _ H.out).mono ?_; rintro e w' ⟨rfl, rfl⟩)
  go_ret
  exact ⟨rfl, rfl⟩
set_option maxRecDepth 100000 in
theorem memory_no (t : Option Addr) (i : Int) (w : World) (h : NM w t) : Calls Tryz.prog 29 #[.pointer t, .int .i64 i] w fun e w' => e = .returned (.slice none 0 0) ∧ w = w' := by
  have H := hide h
  clear h
  go_enter Tryz.func29, Tryz.ntmps29
  go_wp2_with (go_at_call 61; refine (there_no _ _ _ H.out).mono ?_; rintro e w' ⟨rfl, rfl⟩)
  go_ret
  exact ⟨rfl, rfl⟩

/-! Enabled: no round -/
theorem each_no (t : Option Addr) (w : World) : CallsIn Fence.wide 2 Tryz.prog 67 #[.pointer t] w fun e w' =>
    e = .returned (.func (.func 121) #[] #[.pointer (some ⟨w.heap.size, 0, none⟩)]) ∧ w' = w.alloc (.cells #[.pointer t] 66) := by
  refine callsIn_of_wp Tryz.func67 rfl trivial ?_ rfl
  simp only [Tryz.ntmps67, List.size_toArray, List.length_cons, List.length_nil, Nat.reduceAdd, Nat.reduceSub, Array.replicate_succ, Array.replicate_zero, List.push_toArray, List.append_toArray, List.nil_append, List.cons_append]
  gi_wp2
  go_ret
  exact ⟨rfl, rfl⟩
def encN (x : Empty) : Array Value := nomatch x
theorem each_stops (Bt : Nat) (t : Option Addr) (w : World) (hBt : Bt < w.heap.size) (hc : w.cell? ⟨Bt, 0, none⟩ = some (.pointer t)) (h : NM w t) :
    SeqStopsK Fence.wide 2 Tryz.prog 121 #[.pointer (some ⟨Bt, 0, none⟩)] encN (Below w.heap.size) (fun ys => ys = []) (fun _ => False) 0 w := fun l J Jx W hW _ _ hY h0 => by
  have hc' := (hW.cell (p := ⟨Bt, 0, none⟩) hBt).trans hc
  have H := hide (h.below hW)
  clear h hc hY
  refine callsIn_of_wp Tryz.func121 rfl trivial ?_ rfl
  simp only [Tryz.ntmps121, List.size_toArray, List.length_cons, List.length_nil, Nat.reduceAdd, Nat.reduceSub, Array.replicate_succ, Array.replicate_zero, List.push_toArray, List.append_toArray, List.nil_append, List.cons_append]
  gi_wp2_with (refine ⟨trivial, ?_⟩; gi_at_call 62; refine (callsIn_wide.2 (made_no _ _ H.out)).mono ?_; rintro e w' ⟨rfl, rfl⟩)
  refine bodyPost_ret (results_none rfl _ _ _) rfl ?_
  exact ⟨⟨_, rfl⟩, .inl ⟨_, rfl, h0⟩⟩
set_option maxRecDepth 100000 in
theorem enabled_no (t : Option Addr) (w : World) (h : NM w t) : Calls Tryz.prog 27 #[.pointer t] w fun e w' => e = .returned (.slice none 0 0) ∧ Below w.heap.size w w' := by
  have H := hide h
  refine (callsIn_wide (n := 3)).1 ?_
  refine callsIn_of_wp_marks Tryz.func27 rfl trivial ?_ rfl
  simp only [Tryz.ntmps27, List.size_toArray, List.length_cons, List.length_nil, Nat.reduceAdd, Nat.reduceSub, Array.replicate_succ, Array.replicate_zero, List.push_toArray, List.append_toArray, List.nil_append, List.cons_append]
  gi_wp2_with (refine ⟨trivial, ?_⟩; gi_at_call 67; refine (each_no _ _).mono ?_; rintro e w' ⟨rfl, rfl⟩)
  have b0 := (Boxed.new w 55 (.slice none 0 0)).alloc (.cells #[.pointer t] 66)
  have b1 := Boxed.new (w.alloc (.cells #[.slice none 0 0] 55)) 66 (.pointer t)
  have hB0 : Below w.heap.size w ((w.alloc (.cells #[.slice none 0 0] 55)).alloc (.cells #[.pointer t] 66)) := ((Below.refl _ w).alloc (Nat.le_refl _) _).alloc (by simp) _
  simp only [World.size_alloc] at b1
  have hsz : ((w.alloc (.cells #[.slice none 0 0] 55)).alloc (.cells #[.pointer t] 66)).heap.size = w.heap.size + 2 := by simp
  have hN := h.below hB0
  generalize ((w.alloc (.cells #[.slice none 0 0] 55)).alloc (.cells #[.pointer t] 66)) = W0 at *
  refine wpIn_rangeFunc_ownG rfl (by omega) (gf := 121) (lb := #[.pointer (some ⟨w.heap.size + 1, 0, none⟩)]) rfl trivial (enters_of Tryz.func121 (by kernel_rfl) rfl)
    (each_stops (w.heap.size + 1) t W0 (by omega) b1.cell hN) belowK_t (belowK_b (Nat.le_refl _)) (Below.refl _ _) (fun x => x.elim)
    (fun pre W => Boxed W w.heap.size 55 (.slice none 0 0) ∧ Below w.heap.size w W)
    (fun _ _ _ => False)
    (OwnFrom.and (Own.from (fun s X Y row hs hg hrow => boxed_own (β := Unit) _ _ (fun _ => _) () X Y row hs hg hrow) _) (ownFrom_below (by omega) (by omega)))
    (fun _ _ _ _ _ hs _ _ => hs)
    ⟨b0, hB0⟩
    (fun x => x.elim) ?assign ?body ?done ?stop
  case assign =>
    intro l0 x W K hK
    exact x.elim
  case body =>
    rintro l0 pre x W _ hlen
    exact x.elim
  case done =>
    rintro D ys W hD rfl ⟨c0, hB⟩ hK
    have hk0 := c0.cell
    gi_wp2
    refine ⟨by simp, .inl ⟨_, _, rfl, run_takeDeferred hK, ?_⟩⟩
    exact ⟨_, results_tmp rfl _ _ _, rfl, hB.trans (belowK_b (w := w) (Nat.le_refl _) W D _ _ (by omega) hK rfl rfl)⟩
  case stop =>
    rintro D c pre W hD h
    exact h.elim

theorem bel1 {w w' : World} (o : Obj) (h : Below (w.alloc o).heap.size (w.alloc o) w') : Below w.heap.size w w' := ((Below.refl _ w).alloc (Nat.le_refl _) o).trans (h.mono (by simp))
set_option maxRecDepth 100000 in
theorem first_no (t : Option Addr) (w : World) (h : NM w t) : Calls Tryz.prog 60 #[.pointer t] w fun e w' => e = .returned (.tuple #[.agg #[.int .u8 0, .int .i64 0, .int .i64 0, .int .i64 0, .int .i64 0, .int .i64 0], .bool false]) ∧ Below w.heap.size w w' := by
  have H := hide (h.alloc (.cells #[.int .u8 0, .int .i64 0, .int .i64 0, .int .i64 0, .int .i64 0, .int .i64 0] 26))
  clear h
  go_enter Tryz.func60, Tryz.ntmps60
  go_wp2_with fail
  refine (enabled_no _ _ H.out).mono ?_
  rintro e W1 ⟨rfl, hb1⟩
  go_wp2_with fail
  go_loop [9] (fun i => i = .int .i64 0) (fun _ => 0)
  case atStart => rfl
  case round =>
    obtain rfl := hrel
    have hp := hb1.cell (p := ⟨w.heap.size, 0, none⟩) (by simp)
    have hlt : w.heap.size < W1.heap.size := by
      have := hb1.size
      simp at this
      omega
    have hall : ∀ i, W1.cell? ⟨w.heap.size, i, none⟩ = #[.int .u8 0, .int .i64 0, .int .i64 0, .int .i64 0, .int .i64 0, .int .i64 0][i]? := fun i => (hb1.cell (p := ⟨w.heap.size, i, none⟩) (by simp)).trans (World.cell?_alloc_at _ _ _ _ rfl)
    have q0 := hall 0
    have q1 := hall 1
    have q2 := hall 2
    have q3 := hall 3
    have q4 := hall 4
    have q5 := hall 5
    have hfr : ∀ i, W1.frozen? ⟨w.heap.size, i, none⟩ = false := fun i => (hb1.frozen (p := ⟨w.heap.size, i, none⟩) (by simp)).trans (World.frozen?_alloc_at _ _ _ _ rfl)
    have z0 := hfr 0
    have z1 := hfr 1
    have z2 := hfr 2
    have z3 := hfr 3
    have z4 := hfr 4
    have z5 := hfr 5
    have hB := bel1 _ hb1
    clear hall hp hfr
    simp at q0 q1 q2 q3 q4 q5
    go_wp2
    exact bodyPost_ret (v := .tuple #[.agg #[.int .u8 0, .int .i64 0, .int .i64 0, .int .i64 0, .int .i64 0, .int .i64 0], .bool false]) (by simp [results, Tryz.results60, go_sem, q0, q1, q2, q3, q4, q5]) rfl ⟨rfl, (((((hB.setCell (Nat.le_refl _) _).setCell (Nat.le_refl _) _).setCell (Nat.le_refl _) _).setCell (Nat.le_refl _) _).setCell (Nat.le_refl _) _).setCell (Nat.le_refl _) _⟩
set_option maxRecDepth 100000 in
theorem is_yes (t : Option Addr) (w : World) (h : NM w t) : Calls Tryz.prog 23 #[.pointer t] w fun e w' => e = .returned (.bool true) ∧ Below w.heap.size w w' := by
  have H := hide h
  clear h
  go_enter Tryz.func23, Tryz.ntmps23
  go_wp2_with fail
  refine (first_no _ _ H.out).mono ?_
  rintro e W1 ⟨rfl, hb1⟩
  go_wp2
  go_ret
  exact ⟨rfl, hb1.alloc hb1.size _⟩
set_option maxRecDepth 100000 in
theorem forced_no (t : Option Addr) (w : World) (h : NM w t) : Calls Tryz.prog 24 #[.pointer t] w fun e w' => e = .returned (.slice none 0 0) ∧ Below w.heap.size w w' := by
  have H := hide h
  clear h
  go_enter Tryz.func24, Tryz.ntmps24
  go_wp2_with fail
  refine (enabled_no _ _ H.out).mono ?_
  rintro e W1 ⟨rfl, hb1⟩
  go_wp2_with fail
  go_loop [3, 9] (fun o i => o = .slice none 0 0 ∧ i = .int .i64 0) (fun _ _ => 0)
  case atStart => exact ⟨rfl, rfl⟩
  case round =>
    obtain ⟨rfl, rfl⟩ := hrel
    go_wp2
    go_ret
    exact ⟨rfl, hb1⟩
theorem eqNil (w : World) : (binOp BinOp.eql 45 (Value.slice none 0 0) (Value.slice none 0 0)).run Tryz.prog w = .ok (.bool true) w := by
  simp [binOp, run_equal_slice_nil w _ _ none 0 0 Tryz.underlying45]
set_option maxRecDepth 100000 in
theorem to_no (t : Option Addr) (n : Int) (w : World) (h : NM w t) : Calls Tryz.prog 22 #[.pointer t, .int .i64 n] w fun e w' => e = .returned (.tuple #[.slice none 0 0, .int .i64 1]) ∧ Below w.heap.size w w' := by
  have H := hide (h.alloc (.cells #[.int .i64 n] 3))
  have he := eqNil
  clear h
  refine (callsIn_wide (n := 3)).1 ?_
  refine callsIn_of_wp_marks Tryz.func22 rfl trivial ?_ rfl
  simp only [Tryz.ntmps22, List.size_toArray, List.length_cons, List.length_nil, Nat.reduceAdd, Nat.reduceSub, Array.replicate_succ, Array.replicate_zero, List.push_toArray, List.append_toArray, List.nil_append, List.cons_append]
  gi_wp2_with (refine ⟨trivial, ?_⟩; gi_at_call 29; refine (callsIn_wide.2 (memory_no _ _ _ H.out)).mono ?_; rintro e w' ⟨rfl, rfl⟩)
  exact ⟨.tuple #[.slice none 0 0, .int .i64 1], by simp [results, Tryz.f22, go_sem], rfl, (Below.refl _ w).alloc (Nat.le_refl _) _⟩

/-- What stands in the round: the two states, the second of which nobody made. -/
def Ok (W wr : World) (gs g2 : Nat) : Prop :=
  (gs < wr.heap.size ∧ g2 < wr.heap.size) ∧ wr.cell? ⟨gs, 0, none⟩ = some (.pointer none) ∧ wr.cell? ⟨gs, 1, none⟩ = some (.pointer (some ⟨g2, 0, none⟩)) ∧ wr.cell? ⟨g2, 9, none⟩ = some (.pointer none) ∧ Below W.heap.size W wr
theorem Ok.below {W wr w' : World} {gs g2 : Nat} (h : Ok W wr gs g2) (hb : Below wr.heap.size wr w') : Ok W w' gs g2 := by
  obtain ⟨⟨h2, h3⟩, c4, c5, c6, hB⟩ := h
  have hs := hb.size
  have hs' := hB.size
  exact ⟨⟨by omega, by omega⟩, (hb.cell (p := ⟨_, _, none⟩) h2).trans c4, (hb.cell (p := ⟨_, _, none⟩) h2).trans c5, (hb.cell (p := ⟨_, _, none⟩) h3).trans c6, hB.trans (hb.mono (by omega))⟩
theorem Ok.nm {W wr : World} {gs g2 : Nat} (h : Ok W wr gs g2) (k : Nat) (hk : k < 2) : ∃ t, wr.cell? ⟨gs, k, none⟩ = some (.pointer t) ∧ NM wr t := by
  obtain ⟨⟨h2, h3⟩, c4, c5, c6, hB⟩ := h
  rcases Nat.lt_or_ge k 1 with h | h
  · obtain rfl : k = 0 := by omega
    exact ⟨_, c4, .inl rfl⟩
  · obtain rfl : k = 1 := by omega
    exact ⟨_, c5, .inr ⟨g2, rfl, h3, c6⟩⟩
set_option maxRecDepth 100000 in
set_option maxHeartbeats 2000000 in
theorem walk (W : World) (most : Int) (wm : (Lit.int .i64 most).wf = true) :
    Calls Tryz.prog 4 #[.int .i64 most] W fun e w' => e = .returned (.bool true) ∧ Below W.heap.size W w' := by
  go_enter Tryz.func4, Tryz.ntmps4
  go_wp2_with fail
  go_loopw [5] (fun i wr => ∃ k : Nat, k ≤ 2 ∧ i = .int .i64 k ∧ Ok W wr (W.heap.size + 1) W.heap.size) (fun i _ => 2 - (intOf i).toNat)
  case atStart =>
    refine ⟨0, by omega, rfl, ⟨by simp, by simp; omega⟩, ?_, ?_, ?_, ?_⟩
    · rw [World.cell?_alloc_at] <;> simp
    · rw [World.cell?_alloc_at] <;> simp
    · rw [World.cell?_alloc_past, World.cell?_alloc_at] <;> simp
    · exact ((Below.refl _ _).alloc (Nat.le_refl _) _).alloc (by simp) _
  case round =>
    obtain ⟨k, hk, rfl, hok⟩ := hrel
    have HB := hok.2.2.2.2
    by_cases hlt : k < 2
    · obtain ⟨t, hct, hnm⟩ := hok.nm k hlt
      have Hok := hide hok
      have Hnm := hide hnm
      clear hnm HB hok
      go_wp2_with fail
      refine (to_no _ _ _ Hnm.out).mono ?_
      rintro e W1 ⟨rfl, hb1⟩
      have Hok1 := hide (Hok.out.below hb1)
      clear hb1 Hok Hnm hct
      obtain ⟨t1, hct1, hnm1⟩ := Hok1.out.nm k hlt
      have Hnm1 := hide hnm1
      clear hnm1
      go_wp2_with fail
      refine (is_yes _ _ Hnm1.out).mono ?_
      rintro e W2 ⟨rfl, hb2⟩
      have Hok2 := hide (Hok1.out.below hb2)
      clear hb2 Hok1 Hnm1 hct1
      obtain ⟨t2, hct2, hnm2⟩ := Hok2.out.nm k hlt
      have Hnm2 := hide hnm2
      clear hnm2
      go_wp2_with fail
      refine (forced_no _ _ Hnm2.out).mono ?_
      rintro e W3 ⟨rfl, hb3⟩
      have Hok3 := hide (Hok2.out.below hb3)
      clear hb3 Hok2 Hnm2 hct2
      go_wp2
      go_roundw
      case rel => exact ⟨k + 1, by omega, by go_num, Hok3.out⟩
      case measure => simp [intOf]; omega
    · have hge : 2 ≤ k := by omega
      clear hok
      go_wp2
      go_ret
      exact ⟨rfl, HB⟩
end Go.Proofs.YtccphiehocdfiaaGreatDoor.FenceNilW
