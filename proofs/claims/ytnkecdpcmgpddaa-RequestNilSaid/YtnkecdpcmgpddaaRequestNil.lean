/- The walk of the statement RequestNil: of any act; without conditions. -/
import Derived.Test.YtnkecdpcmgpddaaRows
import Derived.Test.YtnkecdpcmgpddaaStructs
import Derived.RangeFuncNested
import Derived.RangeFuncBound
import Derived.RangeFuncCalls
import Derived.RangeFuncLeaves
import Derived.RangeFuncBox
import Derived.Shelf.Abstract
import Derived.Shelf.RegionOpen
import Derived.OwnWalkIn
import Derived.TacticsInMore
import Derived.LoopNIn
import Derived.LoopIn
namespace Go.Proofs.Ytnkecdpcmgpddaa.RequestNilW
open Go.RowKit Go.Shelf Go.Proofs.Ytnkecdpcmgpddaa
attribute [local go_sem] Oper.semAt_some
set_option linter.unusedVariables false
set_option linter.unusedSimpArgs false

/-- A table that nobody made: nil, or one whose first cell says no. -/
def NM (w : World) (t : Option Addr) : Prop := t = none ∨ ∃ g, t = some ⟨g, 0, none⟩ ∧ g < w.heap.size ∧ w.cell? ⟨g, 0, none⟩ = some (.bool false)
theorem NM.below {w w' : World} {t : Option Addr} (h : NM w t) (hb : Below w.heap.size w w') : NM w' t := by
  rcases h with rfl | ⟨g, rfl, hg, hc⟩
  · exact .inl rfl
  · exact .inr ⟨g, rfl, Nat.lt_of_lt_of_le hg hb.size, (hb.cell (p := ⟨g, 0, none⟩) hg).trans hc⟩
theorem NM.alloc {w : World} {t : Option Addr} (h : NM w t) (o : Obj) : NM (w.alloc o) t := h.below ((Below.refl _ _).alloc (Nat.le_refl _) o)

theorem made_no (t : Option Addr) (w : World) (h : NM w t) : Calls Try.prog 69 #[.pointer t] w fun e w' => e = .returned (.bool false) ∧ w = w' := by
  rcases h with rfl | ⟨g, rfl, hg, hc⟩
  · go_enter Try.func69, Try.ntmps69
    go_wp2
    go_ret
    exact ⟨rfl, rfl⟩
  · go_enter Try.func69, Try.ntmps69
    go_wp2
    go_ret
    exact ⟨rfl, rfl⟩
theorem add_no (t : Option Addr) (a b : Bool) (w : World) (h : NM w t) : Calls Try.prog 33 #[.pointer t, .bool a, .bool b] w fun e w' => e = .returned (.tuple #[.int .i64 0, .int .i64 1]) ∧ w = w' := by
  have H := hide h
  clear h
  go_enter Try.func33, Try.ntmps33
  go_wp2_with (go_at_call 69; refine (made_no _ _ H.out).mono ?_; rintro e w' ⟨rfl, rfl⟩)
  go_ret2
  exact ⟨rfl, rfl⟩
theorem complete_no (t : Option Addr) (i v p g : Int) (w : World) (h : NM w t) : Calls Try.prog 36 #[.pointer t, .int .i64 i, .int .i64 v, .int .i64 p, .int .i64 g] w fun e w' => e = .returned (.int .i64 1) ∧ w = w' := by
  have H := hide h
  clear h
  go_enter Try.func36, Try.ntmps36
  go_wp2_with (go_at_call 69; refine (made_no _ _ H.out).mono ?_; rintro e w' ⟨rfl, rfl⟩)
  go_ret
  exact ⟨rfl, rfl⟩
theorem may_no (t A : Option Addr) (n c : Nat) (w : World) (h : NM w t) : Calls Try.prog 37 #[.pointer t, .slice A n c] w fun e w' => e = .returned (.int .i64 1) ∧ w = w' := by
  have H := hide h
  clear h
  go_enter Try.func37, Try.ntmps37
  go_wp2_with (go_at_call 69; refine (made_no _ _ H.out).mono ?_; rintro e w' ⟨rfl, rfl⟩)
  go_ret
  exact ⟨rfl, rfl⟩
theorem many_no (t : Option Addr) (w : World) (h : NM w t) : Calls Try.prog 40 #[.pointer t] w fun e w' => e = .returned (.int .i64 0) ∧ w = w' := by
  have H := hide h
  clear h
  go_enter Try.func40, Try.ntmps40
  go_wp2_with (go_at_call 69; refine (made_no _ _ H.out).mono ?_; rintro e w' ⟨rfl, rfl⟩)
  go_ret
  exact ⟨rfl, rfl⟩
theorem copy_no (t : Option Addr) (w : World) (h : NM w t) : Calls Try.prog 41 #[.pointer t] w fun e w' => e = .returned (.pointer none) ∧ w = w' := by
  have H := hide h
  clear h
  go_enter Try.func41, Try.ntmps41
  go_wp2_with (go_at_call 69; refine (made_no _ _ H.out).mono ?_; rintro e w' ⟨rfl, rfl⟩)
  go_ret
  exact ⟨rfl, rfl⟩
set_option maxRecDepth 100000 in
theorem left_no (t : Option Addr) (w : World) (h : NM w t) : Calls Try.prog 39 #[.pointer t] w fun e w' => e = .returned (.slice none 0 0) ∧ Below w.heap.size w w' := by
  have H := hide ((h.alloc (.cells #[.pointer t] 71)).alloc (.cells #[.slice none 0 0] 66))
  clear h
  go_enter Try.func39, Try.ntmps39
  go_wp2_with (go_at_call 69; refine (made_no _ _ H.out).mono ?_; rintro e w' ⟨rfl, rfl⟩)
  go_ret
  exact ⟨rfl, ((Below.refl _ _).alloc (Nat.le_refl _) _).alloc (by simp) _⟩
set_option maxRecDepth 100000 in
theorem at_no (t : Option Addr) (i : Int) (w : World) (h : NM w t) : Calls Try.prog 34 #[.pointer t, .int .i64 i] w fun e w' => e = .returned (.tuple #[.agg #[.bool false, .bool false, .bool false, .int .i64 0, .int .i64 0, .int .i64 0], .int .i64 1]) ∧ Below w.heap.size w w' := by
  have H := hide (h.alloc (.cells #[.bool false, .bool false, .bool false, .int .i64 0, .int .i64 0, .int .i64 0] 79))
  clear h
  go_enter Try.func34, Try.ntmps34
  go_wp2_with (go_at_call 69; refine (made_no _ _ H.out).mono ?_; rintro e w' ⟨rfl, rfl⟩)
  exact bodyPost_ret (v := .tuple #[.agg #[.bool false, .bool false, .bool false, .int .i64 0, .int .i64 0, .int .i64 0], .int .i64 1]) (by simp [results, Try.results34, go_sem]) rfl ⟨rfl, (Below.refl _ _).alloc (Nat.le_refl _) _⟩
set_option maxRecDepth 100000 in
theorem take_no (t A : Option Addr) (n c : Nat) (w : World) (h : NM w t) : Calls Try.prog 35 #[.pointer t, .slice A n c] w fun e w' => e = .returned (.tuple #[.slice none 0 0, .int .i64 1]) ∧ Below w.heap.size w w' := by
  have H := hide ((h.alloc (.cells #[.slice none 0 0] 72)).alloc (.cells #[.int .i64 0] 58))
  clear h
  refine (callsIn_wide (n := 3)).1 ?_
  refine callsIn_of_wp_marks Try.func35 rfl trivial ?_ rfl
  simp only [Try.ntmps35, List.size_toArray, List.length_cons, List.length_nil, Nat.reduceAdd, Nat.reduceSub, Array.replicate_succ, Array.replicate_zero, List.push_toArray, List.append_toArray, List.nil_append, List.cons_append]
  gi_wp2_with (refine ⟨trivial, ?_⟩; gi_at_call 37; refine (callsIn_wide.2 (may_no _ _ _ _ _ H.out)).mono ?_; rintro e w' ⟨rfl, rfl⟩)
  exact ⟨.tuple #[.slice none 0 0, .int .i64 1], by simp [results, Try.f35, go_sem], rfl, ((Below.refl _ w).alloc (Nat.le_refl _) _).alloc (by simp) _⟩

/-! Which: no round -/
theorem asked_no (t A : Option Addr) (n c : Nat) (w : World) : CallsIn Fence.wide 2 Try.prog 71 #[.pointer t, .slice A n c] w fun e w' =>
    e = .returned (.func (.func 78) #[] #[.pointer (some ⟨w.heap.size, 0, none⟩), .pointer (some ⟨w.heap.size + 1, 0, none⟩)]) ∧ w' = (w.alloc (.cells #[.pointer t] 71)).alloc (.cells #[.slice A n c] 66) := by
  refine callsIn_of_wp Try.func71 rfl trivial ?_ rfl
  simp only [Try.ntmps71, List.size_toArray, List.length_cons, List.length_nil, Nat.reduceAdd, Nat.reduceSub, Array.replicate_succ, Array.replicate_zero, List.push_toArray, List.append_toArray, List.nil_append, List.cons_append]
  gi_wp2
  go_ret
  exact ⟨rfl, rfl⟩
def encN (x : Unit) : Array Value := #[.int .i64 0, .pointer none]
theorem asked_stops (Bt Bl : Nat) (t : Option Addr) (w : World) (hBt : Bt < w.heap.size) (hc : w.cell? ⟨Bt, 0, none⟩ = some (.pointer t)) (h : NM w t) :
    SeqStopsK Fence.wide 2 Try.prog 78 #[.pointer (some ⟨Bt, 0, none⟩), .pointer (some ⟨Bl, 0, none⟩)] encN (Below w.heap.size) (fun ys => ys = []) (fun _ => False) 0 w := fun l J Jx W hW _ _ hY h0 => by
  have hc' := (hW.cell (p := ⟨Bt, 0, none⟩) hBt).trans hc
  have H := hide (h.below hW)
  clear h hc hY
  refine callsIn_of_wp Try.func78 rfl trivial ?_ rfl
  simp only [Try.ntmps78, List.size_toArray, List.length_cons, List.length_nil, Nat.reduceAdd, Nat.reduceSub, Array.replicate_succ, Array.replicate_zero, List.push_toArray, List.append_toArray, List.nil_append, List.cons_append]
  gi_wp2_with (refine ⟨trivial, ?_⟩; gi_at_call 69; refine (callsIn_wide.2 (made_no _ _ H.out)).mono ?_; rintro e w' ⟨rfl, rfl⟩)
  refine bodyPost_ret (results_none rfl _ _ _) rfl ?_
  exact ⟨⟨_, rfl⟩, .inl ⟨_, rfl, h0⟩⟩
set_option maxRecDepth 100000 in
theorem which_no (t A : Option Addr) (n c : Nat) (w : World) (h : NM w t) : Calls Try.prog 38 #[.pointer t, .slice A n c] w fun e w' => e = .returned (.slice none 0 0) ∧ Below w.heap.size w w' := by
  have H := hide h
  refine (callsIn_wide (n := 3)).1 ?_
  refine callsIn_of_wp_marks Try.func38 rfl trivial ?_ rfl
  simp only [Try.ntmps38, List.size_toArray, List.length_cons, List.length_nil, Nat.reduceAdd, Nat.reduceSub, Array.replicate_succ, Array.replicate_zero, List.push_toArray, List.append_toArray, List.nil_append, List.cons_append]
  gi_wp2_with (refine ⟨trivial, ?_⟩; gi_at_call 71; refine (asked_no _ _ _ _ _).mono ?_; rintro e w' ⟨rfl, rfl⟩)
  have b0 := ((Boxed.new w 66 (.slice none 0 0)).alloc (.cells #[.pointer t] 71)).alloc (.cells #[.slice A n c] 66)
  have b1 := (Boxed.new (w.alloc (.cells #[.slice none 0 0] 66)) 71 (.pointer t)).alloc (.cells #[.slice A n c] 66)
  have hB0 : Below w.heap.size w (((w.alloc (.cells #[.slice none 0 0] 66)).alloc (.cells #[.pointer t] 71)).alloc (.cells #[.slice A n c] 66)) :=
    (((Below.refl _ w).alloc (Nat.le_refl _) _).alloc (by simp) _).alloc (by simp; omega) _
  simp only [World.size_alloc] at b1
  have hsz : (((w.alloc (.cells #[.slice none 0 0] 66)).alloc (.cells #[.pointer t] 71)).alloc (.cells #[.slice A n c] 66)).heap.size = w.heap.size + 3 := by simp
  have hN := h.below hB0
  generalize (((w.alloc (.cells #[.slice none 0 0] 66)).alloc (.cells #[.pointer t] 71)).alloc (.cells #[.slice A n c] 66)) = W0 at *
  refine wpIn_rangeFunc_ownG rfl (by omega) (gf := 78) (lb := #[.pointer (some ⟨w.heap.size + 1, 0, none⟩), .pointer (some ⟨w.heap.size + 1 + 1, 0, none⟩)]) rfl trivial (enters_of Try.func78 (by kernel_rfl) rfl)
    (asked_stops (w.heap.size + 1) (w.heap.size + 1 + 1) t W0 (by omega) b1.cell hN) belowK_t (belowK_b (Nat.le_refl _)) (Below.refl _ _) (fun _ => rfl)
    (fun pre W => Boxed W w.heap.size 66 (.slice none 0 0) ∧ Below w.heap.size w W)
    (fun _ _ _ => False)
    (OwnFrom.and (Own.from (fun s X Y row hs hg hrow => boxed_own (β := Unit) _ _ (fun _ => _) () X Y row hs hg hrow) _) (ownFrom_below (by omega) (by omega)))
    (fun _ _ _ _ _ hs _ _ => hs)
    ⟨b0, hB0⟩
    (fun x => { tmps := #[.pointer t, .slice A n c, undef, undef, .slice none 0 0, .pointer (some ⟨w.heap.size, 0, none⟩), .int .i64 0, .pointer none, .pointer t, .slice A n c, .func (.func 78) #[] #[.pointer (some ⟨w.heap.size + 1, 0, none⟩), .pointer (some ⟨w.heap.size + 1 + 1, 0, none⟩)], .int .i64 0, .pointer none, undef, undef, undef, undef, undef, undef, undef, undef, undef, undef, undef, undef, undef, undef, undef, undef], defers := [] }) ?assign ?body ?done ?stop
  case assign =>
    intro l0 x W K hK
    dsimp only [encN]
    gi_wp2
    exact hK
  case body =>
    rintro l0 pre x W _ hlen
    exact absurd hlen (by omega)
  case done =>
    rintro D ys W hD rfl ⟨c0, hB⟩ hK
    have hk0 := c0.cell
    gi_wp2
    refine ⟨by simp, .inl ⟨_, _, rfl, run_takeDeferred hK, ?_⟩⟩
    exact ⟨_, results_tmp rfl _ _ _, rfl, hB.trans (belowK_b (w := w) (Nat.le_refl _) W D _ _ (by omega) hK rfl rfl)⟩
  case stop =>
    rintro D c pre W hD h
    exact h.elim

set_option maxRecDepth 100000 in
/-- Great of one act -/
theorem great1 (g n c : Nat) (A : Option Addr) (w : World) (hc : w.cell? ⟨g, 2, none⟩ = some (.slice A n c)) : Calls Try.prog 32 #[.slice (some ⟨g, 0, none⟩) 1 1] w fun e w' => e = .returned (.bool (decide (20 < n))) ∧ w = w' := by
  by_cases h : 20 < n
  · rw [decide_eq_true h]
    go_enter Try.func32, Try.ntmps32
    go_wp2
    go_loop [3] (fun i => i = .int .i64 0) (fun _ => 0)
    case atStart => rfl
    case round =>
      obtain rfl := hrel
      go_wp2
      go_ret
      exact ⟨rfl, rfl⟩
  · rw [decide_eq_false h]
    have h' : n ≤ 20 := by omega
    go_enter Try.func32, Try.ntmps32
    go_wp2
    go_loop [3] (fun i => i = .int .i64 0 ∨ i = .int .i64 1) (fun i => 1 - (intOf i).toNat)
    case atStart => exact .inl rfl
    case round =>
      rcases hrel with rfl | rfl
      · go_wp2
        go_round
        case rel => exact .inr rfl
        case measure => simp [intOf]
      · go_wp2
        go_ret
        exact ⟨rfl, rfl⟩

/-- What stands in the round: the act's fields, the two tables, the second of which nobody made. -/
def Ok (W wr : World) (gs g2 : Nat) (y : Bool) (A : Option Addr) (n c : Nat) (p : Int) : Prop :=
  (W.heap.size < wr.heap.size ∧ gs < wr.heap.size ∧ g2 < wr.heap.size) ∧ wr.cell? ⟨W.heap.size, 1, none⟩ = some (.bool y) ∧ wr.cell? ⟨W.heap.size, 2, none⟩ = some (.slice A n c) ∧ wr.cell? ⟨W.heap.size, 4, none⟩ = some (.int .i64 p) ∧
    wr.cell? ⟨gs, 0, none⟩ = some (.pointer none) ∧ wr.cell? ⟨gs, 1, none⟩ = some (.pointer (some ⟨g2, 0, none⟩)) ∧ wr.cell? ⟨g2, 0, none⟩ = some (.bool false) ∧ Below W.heap.size W wr
theorem Ok.below {W wr w' : World} {gs g2 : Nat} {y : Bool} {A : Option Addr} {n c : Nat} {p : Int} (h : Ok W wr gs g2 y A n c p) (hb : Below wr.heap.size wr w') : Ok W w' gs g2 y A n c p := by
  obtain ⟨⟨h1, h2, h3⟩, c1, c2, c3, c4, c5, c6, hB⟩ := h
  have hs := hb.size
  exact ⟨⟨by omega, by omega, by omega⟩, (hb.cell (p := ⟨_, _, none⟩) h1).trans c1, (hb.cell (p := ⟨_, _, none⟩) h1).trans c2, (hb.cell (p := ⟨_, _, none⟩) h1).trans c3, (hb.cell (p := ⟨_, _, none⟩) h2).trans c4,
    (hb.cell (p := ⟨_, _, none⟩) h2).trans c5, (hb.cell (p := ⟨_, _, none⟩) h3).trans c6, hB.trans (hb.mono (by omega))⟩
theorem Ok.nm {W wr : World} {gs g2 : Nat} {y : Bool} {A : Option Addr} {n c : Nat} {p : Int} (h : Ok W wr gs g2 y A n c p) (k : Nat) (hk : k < 2) : ∃ t, wr.cell? ⟨gs, k, none⟩ = some (.pointer t) ∧ NM wr t := by
  obtain ⟨⟨h1, h2, h3⟩, c1, c2, c3, c4, c5, c6, hB⟩ := h
  rcases Nat.lt_or_ge k 1 with h | h
  · obtain rfl : k = 0 := by omega
    exact ⟨_, c4, .inl rfl⟩
  · obtain rfl : k = 1 := by omega
    exact ⟨_, c5, .inr ⟨g2, rfl, h3, c6⟩⟩
set_option maxRecDepth 100000 in
set_option maxHeartbeats 2000000 in
theorem walk {H : Type} {enc : TypeId × Value → H} {base : Nat} (W : World) (v0 : Value) (d0 : DataW H) (p0 : List MemPlace) (o0 : Value.okWide Try.prog W .any base 68 v0) (r0 : DataW.Trod enc Try.prog W 0 (fun _ => true) true 68 v0 d0 p0) :
    Calls Try.prog 8 #[v0] W fun e w' => e = .returned (.bool true) ∧ Below W.heap.size W w' := by
  obtain ⟨c0, c1, c2, c3, c4, c5, y0, y1, y2, y3, y4, y5, fuel, rfl, _, _, h0, h1, h2, h3, h4, h5⟩ := open_agg6 Try.underlying68 (by kernel_rfl) (by kernel_rfl) o0 r0
  obtain ⟨k, e0, _, _⟩ := DataW.trod_int Try.underlying5 h0
  obtain ⟨y, e1, _⟩ := DataW.trod_bool Try.underlying4 h1
  obtain ⟨A, n, c, e2⟩ := Joins.slice_form Try.underlying66 h2
  obtain ⟨v, e3, _, _⟩ := DataW.trod_int Try.underlying2 h3
  obtain ⟨p, e4, _, _⟩ := DataW.trod_int Try.underlying3 h4
  obtain ⟨g, e5, _, _⟩ := DataW.trod_int Try.underlying3 h5
  simp at e0 e1 e2 e3 e4 e5
  subst e0 e1 e2 e3 e4 e5
  clear o0 r0 h0 h1 h2 h3 h4 h5
  go_enter Try.func8, Try.ntmps8
  go_wp2_with fail
  refine (great1 _ n c A _ (by rw [World.cell?_alloc_at _ _ _ _ (by simp)]; rfl)).mono ?_
  rintro e w' ⟨rfl, rfl⟩
  by_cases h20 : 20 < n
  · rw [decide_eq_true h20]
    go_wp2
    go_ret
    exact ⟨rfl, ((Below.refl _ W).alloc (Nat.le_refl _) _).alloc (by simp) _⟩
  · rw [decide_eq_false h20]
    clear h20
    go_wp2_with fail
    go_loopw [5] (fun i wr => ∃ k : Nat, k ≤ 2 ∧ i = .int .i64 k ∧ Ok W wr (W.heap.size + 1 + 1 + 1) (W.heap.size + 1 + 1) y A n c p) (fun i _ => 2 - (intOf i).toNat)
    case atStart =>
      refine ⟨0, by omega, rfl, ?_⟩
      refine ⟨⟨by simp; omega, by simp, by simp⟩, by rw [World.cell?_alloc_past, World.cell?_alloc_past, World.cell?_alloc_past, World.cell?_alloc_at] <;> simp <;> omega, by rw [World.cell?_alloc_past, World.cell?_alloc_past, World.cell?_alloc_past, World.cell?_alloc_at] <;> simp <;> omega, by rw [World.cell?_alloc_past, World.cell?_alloc_past, World.cell?_alloc_past, World.cell?_alloc_at] <;> simp <;> omega, by rw [World.cell?_alloc_at] <;> simp, by rw [World.cell?_alloc_at] <;> simp, by rw [World.cell?_alloc_past, World.cell?_alloc_at] <;> simp, ?_⟩
      exact ((((Below.refl _ W).alloc (Nat.le_refl _) _).alloc (by simp) _).alloc (by simp; omega) _).alloc (by simp; omega) _
    case round =>
      obtain ⟨k, hk, rfl, hok⟩ := hrel
      have HB := hok.2.2.2.2.2.2.2
      by_cases hlt : k < 2
      · obtain ⟨t, hct, hnm⟩ := hok.nm k hlt
        have Hok := hide hok
        obtain ⟨_, f1, f2, f4, _⟩ := hok
        have Hnm := hide hnm
        clear hnm HB
        go_wp2_with fail
        refine (add_no _ _ _ _ Hnm.out).mono ?_
        rintro e w' ⟨rfl, rfl⟩
        go_wp2_with fail
        refine (at_no _ _ _ Hnm.out).mono ?_
        rintro e W1 ⟨rfl, hb1⟩
        have Hok1 := hide (Hok.out.below hb1)
        have Hnm1 := hide (Hnm.out.below hb1)
        clear f1 f2 f4 hb1 Hok Hnm hct
        obtain ⟨⟨s1, _, _⟩, f1, f2, f4, _⟩ := Hok1.out
        go_wp2_with fail
        refine (take_no _ _ _ _ _ (Hnm1.out.alloc _)).mono ?_
        rintro e W2 ⟨rfl, hb2⟩
        have hb2' : Below W1.heap.size W1 W2 := ((Below.refl _ W1).alloc (Nat.le_refl _) _).trans (hb2.mono (by simp))
        have Hok2 := hide (Hok1.out.below hb2')
        have Hnm2 := hide (Hnm1.out.below hb2')
        clear f1 f2 f4 hb2 hb2' Hok1 Hnm1 s1
        obtain ⟨⟨s2, _, _⟩, f1, f2, f4, _⟩ := Hok2.out
        go_wp2_with fail
        refine (complete_no _ _ _ _ _ _ Hnm2.out).mono ?_
        rintro e w' ⟨rfl, rfl⟩
        go_wp2_with fail
        refine (may_no _ _ _ _ _ Hnm2.out).mono ?_
        rintro e w' ⟨rfl, rfl⟩
        go_wp2_with fail
        refine (which_no _ _ _ _ _ Hnm2.out).mono ?_
        rintro e W3 ⟨rfl, hb3⟩
        have Hok3 := hide (Hok2.out.below hb3)
        have Hnm3 := hide (Hnm2.out.below hb3)
        clear f1 f2 f4 hb3 Hok2 Hnm2 s2
        go_wp2_with fail
        refine (left_no _ _ Hnm3.out).mono ?_
        rintro e W4 ⟨rfl, hb4⟩
        have Hok4 := hide (Hok3.out.below hb4)
        have Hnm4 := hide (Hnm3.out.below hb4)
        clear hb4 Hok3 Hnm3
        go_wp2_with fail
        refine (many_no _ _ Hnm4.out).mono ?_
        rintro e w' ⟨rfl, rfl⟩
        go_wp2
        go_roundw
        case rel => exact ⟨k + 1, by omega, by go_num, Hok4.out⟩
        case measure => simp [intOf]; omega
      · have hge : 2 ≤ k := by omega
        clear hok
        go_wp2_with fail
        refine (copy_no _ _ (.inl rfl)).mono ?_
        rintro e w' ⟨rfl, rfl⟩
        go_wp2
        go_ret
        exact ⟨rfl, HB⟩
end Go.Proofs.Ytnkecdpcmgpddaa.RequestNilW
