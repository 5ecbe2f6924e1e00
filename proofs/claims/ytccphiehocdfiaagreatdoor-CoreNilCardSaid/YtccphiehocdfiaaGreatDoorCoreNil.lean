/- The walk of the statement CoreNil: of any act; without conditions. -/
import Derived.Test.YtccphiehocdfiaaGreatDoorRows
import Derived.Test.YtccphiehocdfiaaGreatDoorStructs
import Derived.Test.YtccphiehocdfiaaGreatDoorQuietBelow
namespace Go.Proofs.YtccphiehocdfiaaGreatDoor.CoreNilW
open Go.Joins Go.ChangeShapes Go.WideShapes Go.RowKit Go.Deep Go.Proofs.YtccphiehocdfiaaGreatDoor
set_option linter.unusedVariables false
set_option linter.unusedSimpArgs false
/-- A core that nobody made: nil, or one without its kinds. -/
def NM (w : World) (t : Option Addr) : Prop := t = none ∨ ∃ g, t = some ⟨g, 0, none⟩ ∧ g < w.heap.size ∧ w.cell? ⟨g, 6, none⟩ = some (.pointer none)
theorem NM.below {w w' : World} {t : Option Addr} (h : NM w t) (hb : Below w.heap.size w w') : NM w' t := by
  rcases h with rfl | ⟨g, rfl, hg, hc⟩
  · exact .inl rfl
  · exact .inr ⟨g, rfl, Nat.lt_of_lt_of_le hg hb.size, (hb.cell (p := ⟨g, 6, none⟩) hg).trans hc⟩
theorem NM.alloc {w : World} {t : Option Addr} (h : NM w t) (o : Obj) : NM (w.alloc o) t := h.below ((Below.refl _ _).alloc (Nat.le_refl _) o)
theorem bel1 {w w' : World} (o : Obj) (h : Below (w.alloc o).heap.size (w.alloc o) w') : Below w.heap.size w w' := ((Below.refl _ w).alloc (Nat.le_refl _) o).trans (h.mono (by simp))
set_option maxRecDepth 100000 in
theorem made_no (t : Option Addr) (w : World) (h : NM w t) : Calls Tryz.prog 36 #[.pointer t] w fun e w' => e = .returned (.bool false) ∧ w = w' := by
  rcases h with rfl | ⟨g, rfl, hg, hc⟩
  all_goals
    go_enter Tryz.func36, Tryz.ntmps36
    go_wp2
    go_ret
    exact ⟨rfl, rfl⟩
set_option maxRecDepth 100000 in
theorem there_no (t : Option Addr) (r : Value) (w : World) (h : NM w t) : Calls Tryz.prog 37 #[.pointer t, r] w fun e w' => e = .returned (.bool false) ∧ w = w' := by
  have H := hide h
  clear h
  go_enter Tryz.func37, Tryz.ntmps37
  go_wp2_with (go_at_call 36; refine (made_no _ _ H.out).mono ?_; rintro e w' ⟨rfl, rfl⟩)
  go_ret
  exact ⟨rfl, rfl⟩
set_option maxRecDepth 100000 in
theorem find_no (t : Option Addr) (r k : Value) (w : World) (h : NM w t) : Calls Tryz.prog 45 #[.pointer t, r, k] w fun e w' => e = .returned (.pointer none) ∧ w = w' := by
  have H := hide h
  clear h
  go_enter Tryz.func45, Tryz.ntmps45
  go_wp2_with (go_at_call 37; refine (there_no _ _ _ H.out).mono ?_; rintro e w' ⟨rfl, rfl⟩)
  go_ret
  exact ⟨rfl, rfl⟩
set_option maxRecDepth 100000 in
theorem end_no (t : Option Addr) (r : Value) (w : World) (h : NM w t) : Calls Tryz.prog 9 #[.pointer t, r] w fun e w' => e = .returned (.int .i64 1) ∧ w = w' := by
  have H := hide h
  clear h
  go_enter Tryz.func9, Tryz.ntmps9
  go_wp2_with (go_at_call 36; refine (made_no _ _ H.out).mono ?_; rintro e w' ⟨rfl, rfl⟩)
  go_ret
  exact ⟨rfl, rfl⟩
set_option maxRecDepth 100000 in
theorem calls_no (t : Option Addr) (r : Value) (w : World) (h : NM w t) : Calls Tryz.prog 11 #[.pointer t, r] w fun e w' => e = .returned (.int .i64 0) ∧ w = w' := by
  have H := hide h
  clear h
  go_enter Tryz.func11, Tryz.ntmps11
  go_wp2_with (go_at_call 37; refine (there_no _ _ _ H.out).mono ?_; rintro e w' ⟨rfl, rfl⟩)
  go_ret
  exact ⟨rfl, rfl⟩
set_option maxRecDepth 100000 in
theorem open_no (t : Option Addr) (r : Value) (w : World) (h : NM w t) : Calls Tryz.prog 12 #[.pointer t, r] w fun e w' => e = .returned (.bool false) ∧ w = w' := by
  have H := hide h
  clear h
  go_enter Tryz.func12, Tryz.ntmps12
  go_wp2_with (go_at_call 37; refine (there_no _ _ _ H.out).mono ?_; rintro e w' ⟨rfl, rfl⟩)
  go_ret
  exact ⟨rfl, rfl⟩
set_option maxRecDepth 100000 in
theorem over_no (t : Option Addr) (r : Value) (w : World) (h : NM w t) : Calls Tryz.prog 13 #[.pointer t, r] w fun e w' => e = .returned (.bool false) ∧ w = w' := by
  have H := hide h
  clear h
  go_enter Tryz.func13, Tryz.ntmps13
  go_wp2_with (go_at_call 12; refine (open_no _ _ _ H.out).mono ?_; rintro e w' ⟨rfl, rfl⟩)
  go_ret
  exact ⟨rfl, rfl⟩
set_option maxRecDepth 100000 in
theorem ended_no (t : Option Addr) (r : Value) (w : World) (h : NM w t) : Calls Tryz.prog 14 #[.pointer t, r] w fun e w' => e = .returned (.bool false) ∧ w = w' := by
  have H := hide h
  clear h
  go_enter Tryz.func14, Tryz.ntmps14
  go_wp2_with (go_at_call 37; refine (there_no _ _ _ H.out).mono ?_; rintro e w' ⟨rfl, rfl⟩)
  go_ret
  exact ⟨rfl, rfl⟩
set_option maxRecDepth 100000 in
theorem point_no (t : Option Addr) (r k : Value) (w : World) (h : NM w t) : Calls Tryz.prog 15 #[.pointer t, r, k] w fun e w' => e = .returned (.bool false) ∧ w = w' := by
  have H := hide h
  clear h
  go_enter Tryz.func15, Tryz.ntmps15
  go_wp2_with (go_at_call 45; refine (find_no _ _ _ _ H.out).mono ?_; rintro e w' ⟨rfl, rfl⟩)
  go_ret
  exact ⟨rfl, rfl⟩
set_option maxRecDepth 100000 in
theorem picks_no (t : Option Addr) (r : Value) (w : World) (h : NM w t) : Calls Tryz.prog 16 #[.pointer t, r] w fun e w' => e = .returned (.slice none 0 0) ∧ w = w' := by
  have H := hide h
  clear h
  go_enter Tryz.func16, Tryz.ntmps16
  go_wp2_with (go_at_call 37; refine (there_no _ _ _ H.out).mono ?_; rintro e w' ⟨rfl, rfl⟩)
  go_ret
  exact ⟨rfl, rfl⟩
set_option maxRecDepth 100000 in
theorem left_no (t : Option Addr) (r : Value) (w : World) (h : NM w t) : Calls Tryz.prog 17 #[.pointer t, r] w fun e w' => e = .returned (.slice none 0 0) ∧ w = w' := by
  have H := hide h
  clear h
  go_enter Tryz.func17, Tryz.ntmps17
  go_wp2_with (go_at_call 37; refine (there_no _ _ _ H.out).mono ?_; rintro e w' ⟨rfl, rfl⟩)
  go_ret
  exact ⟨rfl, rfl⟩
set_option maxRecDepth 100000 in
theorem waiting_no (t : Option Addr) (r : Value) (w : World) (h : NM w t) : Calls Tryz.prog 18 #[.pointer t, r] w fun e w' => e = .returned (.slice none 0 0) ∧ w = w' := by
  have H := hide h
  clear h
  go_enter Tryz.func18, Tryz.ntmps18
  go_wp2_with (go_at_call 37; refine (there_no _ _ _ H.out).mono ?_; rintro e w' ⟨rfl, rfl⟩)
  go_ret
  exact ⟨rfl, rfl⟩
set_option maxRecDepth 100000 in
theorem messages_no (t : Option Addr)  (w : World) (h : NM w t) : Calls Tryz.prog 19 #[.pointer t] w fun e w' => e = .returned (.slice none 0 0) ∧ w = w' := by
  have H := hide h
  clear h
  go_enter Tryz.func19, Tryz.ntmps19
  go_wp2_with (go_at_call 36; refine (made_no _ _ H.out).mono ?_; rintro e w' ⟨rfl, rfl⟩)
  go_ret
  exact ⟨rfl, rfl⟩
set_option maxRecDepth 100000 in
theorem odd_no (t : Option Addr)  (w : World) (h : NM w t) : Calls Tryz.prog 20 #[.pointer t] w fun e w' => e = .returned (.slice none 0 0) ∧ w = w' := by
  have H := hide h
  clear h
  go_enter Tryz.func20, Tryz.ntmps20
  go_wp2_with (go_at_call 36; refine (made_no _ _ H.out).mono ?_; rintro e w' ⟨rfl, rfl⟩)
  go_ret
  exact ⟨rfl, rfl⟩
set_option maxRecDepth 100000 in
theorem copy_no (t : Option Addr)  (w : World) (h : NM w t) : Calls Tryz.prog 21 #[.pointer t] w fun e w' => e = .returned (.pointer none) ∧ w = w' := by
  have H := hide h
  clear h
  go_enter Tryz.func21, Tryz.ntmps21
  go_wp2_with (go_at_call 36; refine (made_no _ _ H.out).mono ?_; rintro e w' ⟨rfl, rfl⟩)
  go_ret
  exact ⟨rfl, rfl⟩
set_option maxRecDepth 100000 in
theorem make_no (t : Option Addr) (c0 c1 c2 c3 c4 c5 c6 c7 c8 c9 c11 c12 c13 c14 c15 c16 c17 c18 c19 : Value) (A : Option Addr) (n c : Nat) (r : Value) (w : World) (h : NM w t) : Calls Tryz.prog 7 #[.pointer t, r, .agg #[c2, c3, c4, c5, c6, c7, c8, c9, (.slice A n c), c11, c12]] w fun e w' => e = .returned (.tuple #[.bool false, .int .i64 1]) ∧ Below w.heap.size w w' := by
  have H := hide (h.alloc (.cells #[c2, c3, c4, c5, c6, c7, c8, c9, (.slice A n c), c11, c12] 24))
  clear h
  go_enter Tryz.func7, Tryz.ntmps7
  go_wp2_with (go_at_call 36; refine (made_no _ _ H.out).mono ?_; rintro e w' ⟨rfl, rfl⟩)
  go_ret2
  exact ⟨rfl, ((Below.refl _ _).alloc (Nat.le_refl _) _)⟩
set_option maxRecDepth 100000 in
theorem do_no (t : Option Addr) (c0 c1 c2 c3 c4 c5 c6 c7 c8 c9 c11 c12 c13 c14 c15 c16 c17 c18 c19 : Value) (A : Option Addr) (n c : Nat) (w : World) (h : NM w t) : Calls Tryz.prog 10 #[.pointer t, .agg #[c14, c15, c16, c17, c18, c19]] w fun e w' => e = .returned (.int .i64 1) ∧ Below w.heap.size w w' := by
  have H := hide (h.alloc (.cells #[c14, c15, c16, c17, c18, c19] 26))
  clear h
  go_enter Tryz.func10, Tryz.ntmps10
  go_wp2_with (go_at_call 36; refine (made_no _ _ H.out).mono ?_; rintro e w' ⟨rfl, rfl⟩)
  go_ret
  exact ⟨rfl, ((Below.refl _ _).alloc (Nat.le_refl _) _)⟩
set_option maxRecDepth 100000 in
theorem tell_no (t : Option Addr) (r : Value) (w : World) (h : NM w t) : Calls Tryz.prog 8 #[.pointer t, r] w fun e w' => e = .returned (.tuple #[.agg #[.bool false, .int .i64 0, .int .i64 0, .int .i64 0, .int .i64 0, .int .i64 0, .int .i64 0, .slice none 0 0], .int .i64 1]) ∧ Below w.heap.size w w' := by
  have H := hide (h.alloc (.cells #[.bool false, .int .i64 0, .int .i64 0, .int .i64 0, .int .i64 0, .int .i64 0, .int .i64 0, .slice none 0 0] 47))
  clear h
  go_enter Tryz.func8, Tryz.ntmps8
  go_wp2_with (go_at_call 36; refine (made_no _ _ H.out).mono ?_; rintro e w' ⟨rfl, rfl⟩)
  exact bodyPost_ret (v := .tuple #[.agg #[.bool false, .int .i64 0, .int .i64 0, .int .i64 0, .int .i64 0, .int .i64 0, .int .i64 0, .slice none 0 0], .int .i64 1]) (by simp [results, Tryz.results8, go_sem]) rfl ⟨rfl, (Below.refl _ _).alloc (Nat.le_refl _) _⟩
set_option maxRecDepth 100000 in
/-- Great of one act -/
theorem great1 (g n c : Nat) (A : Option Addr) (w : World) (hg : g < w.heap.size) (hc : w.cell? ⟨g, 10, none⟩ = some (.slice A n c)) : Calls Tryz.prog 6 #[.agg #[.int .i64 0, .int .i64 0, .bool false, .int .i64 0, .int .i64 0, .int .i64 0], .slice (some ⟨g, 0, none⟩) 1 1] w fun e w' => e = .returned (.bool (decide (20 < n))) ∧ Below w.heap.size w w' := by
  by_cases h : 20 < n
  · rw [decide_eq_true h]
    go_enter Tryz.func6, Tryz.ntmps6
    go_wp2
    go_loop [5] (fun i => i = .int .i64 0) (fun _ => 0)
    case atStart => rfl
    case round =>
      obtain rfl := hrel
      go_wp2
      go_ret
      exact ⟨rfl, (Below.refl _ _).alloc (Nat.le_refl _) _⟩
  · rw [decide_eq_false h]
    have h' : n ≤ 20 := by omega
    go_enter Tryz.func6, Tryz.ntmps6
    go_wp2
    go_loop [5] (fun i => i = .int .i64 0 ∨ i = .int .i64 1) (fun i => 1 - (intOf i).toNat)
    case atStart => exact .inl rfl
    case round =>
      rcases hrel with rfl | rfl
      · go_wp2
        go_round
        case rel => exact .inr rfl
        case measure => simp [intOf]
      · go_wp2
        go_ret
        exact ⟨rfl, (Below.refl _ _).alloc (Nat.le_refl _) _⟩
/-- What stands in the round. -/
structure Ok (W wr : World) (gs g2 : Nat) (cs : Array Value) : Prop where
  l0 : W.heap.size < wr.heap.size
  l1 : gs < wr.heap.size
  l2 : g2 < wr.heap.size
  a : ∀ i, wr.cell? ⟨W.heap.size, i, none⟩ = cs[i]?
  p0 : wr.cell? ⟨gs, 0, none⟩ = some (.pointer none)
  p1 : wr.cell? ⟨gs, 1, none⟩ = some (.pointer (some ⟨g2, 0, none⟩))
  k : wr.cell? ⟨g2, 6, none⟩ = some (.pointer none)
  b : Below W.heap.size W wr
theorem act_at (W : World) (cs : Array Value) (t : TypeId) (o : Obj) (i : Nat) : ((W.alloc (.cells cs t)).alloc o).cell? ⟨W.heap.size, i, none⟩ = cs[i]? := by
  rw [World.cell?_alloc_past _ _ _ (by simp), World.cell?_alloc_at _ _ _ _ rfl]
theorem act_new (W : World) (cs : Array Value) (t : TypeId) (o : Obj) (i : Nat) (v : Value) (h : cs[i]? = some v) : ((W.alloc o).alloc (.cells cs t)).cell? ⟨W.heap.size + 1, i, none⟩ = some v := by
  rw [World.cell?_alloc_at _ _ _ _ (by simp), h]
theorem Ok.below {W wr w' : World} {gs g2 : Nat} {cs : Array Value} (h : Ok W wr gs g2 cs) (hb : Below wr.heap.size wr w') : Ok W w' gs g2 cs :=
  ⟨Nat.lt_of_lt_of_le h.l0 hb.size, Nat.lt_of_lt_of_le h.l1 hb.size, Nat.lt_of_lt_of_le h.l2 hb.size, fun i => (hb.cell (p := ⟨_, i, none⟩) h.l0).trans (h.a i), (hb.cell (p := ⟨_, _, none⟩) h.l1).trans h.p0,
    (hb.cell (p := ⟨_, _, none⟩) h.l1).trans h.p1, (hb.cell (p := ⟨_, _, none⟩) h.l2).trans h.k, h.b.trans (hb.mono h.b.size)⟩
theorem Ok.nm {W wr : World} {gs g2 : Nat} {cs : Array Value} (h : Ok W wr gs g2 cs) (k : Nat) (hk : k < 2) : ∃ t, wr.cell? ⟨gs, k, none⟩ = some (.pointer t) ∧ NM wr t := by
  rcases Nat.lt_or_ge k 1 with h1 | h1
  · obtain rfl : k = 0 := by omega
    exact ⟨_, h.p0, .inl rfl⟩
  · obtain rfl : k = 1 := by omega
    exact ⟨_, h.p1, .inr ⟨g2, rfl, h.l2, h.k⟩⟩
theorem actSize : (Tryz.prog.info? 28).map (·.size) = some 20 := by kernel_rfl
set_option maxRecDepth 100000 in
set_option maxHeartbeats 4000000 in
theorem law_any (c0 c1 c2 c3 c4 c5 c6 c7 c8 c9 c11 c12 c13 c14 c15 c16 c17 c18 c19 : Value) (A : Option Addr) (n c : Nat) (W : World) :
    Calls Tryz.prog 3 #[.agg #[c0, c1, c2, c3, c4, c5, c6, c7, c8, c9, (.slice A n c), c11, c12, c13, c14, c15, c16, c17, c18, c19]] W fun e w' => e = .returned (.bool true) ∧ Below W.heap.size W w' := by
  have hB0 : Below W.heap.size W ((W.alloc (.cells #[c0, c1, c2, c3, c4, c5, c6, c7, c8, c9, (.slice A n c), c11, c12, c13, c14, c15, c16, c17, c18, c19] 28)).alloc (.cells #[c0, c1, c2, c3, c4, c5, c6, c7, c8, c9, (.slice A n c), c11, c12, c13, c14, c15, c16, c17, c18, c19] 28)) := ((Below.refl _ _).alloc (Nat.le_refl _) _).alloc (by simp) _
  have HB0 := hide hB0
  clear hB0
  go_enter Tryz.func3, Tryz.ntmps3
  go_wp2_with (refine wpList_load_row rfl 28 _ rfl W.heap.size rfl 28 #[c0, c1, c2, c3, c4, c5, c6, c7, c8, c9, (.slice A n c), c11, c12, c13, c14, c15, c16, c17, c18, c19] (0, 0) _ (heap_alloc_new _ _) Tryz.underlying28 rfl actSize ?_)
  refine (great1 _ n c A _ (by simp) (act_new _ _ _ _ _ _ (by simp))).mono ?_
  rintro e W1 ⟨rfl, hb1⟩
  have ha : ∀ i, W1.cell? ⟨W.heap.size, i, none⟩ = (#[c0, c1, c2, c3, c4, c5, c6, c7, c8, c9, (.slice A n c), c11, c12, c13, c14, c15, c16, c17, c18, c19] : Array Value)[i]? := fun i => by
    exact (hb1.cell (p := ⟨W.heap.size, i, none⟩) (by simp; omega)).trans (act_at _ _ _ _ _)
  have HA := hide ha
  have HB1 := hide (HB0.out.trans (hb1.mono HB0.out.size))
  have hs : W.heap.size < W1.heap.size := by have := hb1.size; simp at this; omega
  clear ha hb1 HB0
  by_cases hn : 20 < n
  · go_wp2_with fail
    go_ret
    exact ⟨rfl, HB1.out⟩
  · go_wp2_with fail
    go_loopw [5] (fun i wr => ∃ k : Nat, k ≤ 2 ∧ i = .int .i64 k ∧ Hid (Ok W wr (W1.heap.size + 1) W1.heap.size #[c0, c1, c2, c3, c4, c5, c6, c7, c8, c9, (.slice A n c), c11, c12, c13, c14, c15, c16, c17, c18, c19])) (fun i _ => 2 - (intOf i).toNat)
    case atStart =>
      have e2 : ((W1.alloc (.cells #[.int .i64 0, .int .i64 0, .bool false, .int .i64 0, .int .i64 0, .int .i64 0, .pointer none, .slice none 0 0, .pointer none, .pointer none, .pointer none] 40)).alloc (.cells #[.pointer none, .pointer (some ⟨W1.heap.size, 0, none⟩)] 33)).heap.size = W1.heap.size + 2 := by simp
      refine ⟨0, by omega, rfl, hide ⟨by rw [e2]; omega, by rw [e2]; omega, by rw [e2]; omega, fun i => ?_, ?_, ?_, ?_, ?_⟩⟩
      · rw [World.cell?_alloc_past _ _ _ (by simp; omega), World.cell?_alloc_past _ _ _ (by omega)]
        exact HA.out i
      · rw [World.cell?_alloc_at _ _ _ _ (by simp)]; rfl
      · rw [World.cell?_alloc_at _ _ _ _ (by simp)]; rfl
      · rw [World.cell?_alloc_past _ _ _ (by simp), World.cell?_alloc_at _ _ _ _ rfl]; rfl
      · exact (HB1.out.alloc (by omega) _).alloc (by simp; omega) _
    case round =>
      obtain ⟨k, hk, rfl, HO⟩ := hrel
      by_cases hlt : k < 2
      · obtain ⟨t, hct, hnm⟩ := HO.out.nm k hlt
        have HN := hide hnm
        have hl := HO.out.l0
        clear hnm
        have q1 : _ = some c1 := HO.out.a 1
        have q2 : _ = some c2 := HO.out.a 2
        have q3 : _ = some c3 := HO.out.a 3
        have q4 : _ = some c4 := HO.out.a 4
        have q5 : _ = some c5 := HO.out.a 5
        have q6 : _ = some c6 := HO.out.a 6
        have q7 : _ = some c7 := HO.out.a 7
        have q8 : _ = some c8 := HO.out.a 8
        have q9 : _ = some c9 := HO.out.a 9
        have q10 : _ = some (Value.slice A n c) := HO.out.a 10
        have q11 : _ = some c11 := HO.out.a 11
        have q12 : _ = some c12 := HO.out.a 12
        have q14 : _ = some c14 := HO.out.a 14
        have q15 : _ = some c15 := HO.out.a 15
        have q16 : _ = some c16 := HO.out.a 16
        have q17 : _ = some c17 := HO.out.a 17
        have q18 : _ = some c18 := HO.out.a 18
        have q19 : _ = some c19 := HO.out.a 19
        go_wp2_with fail
        refine (make_no _ c0 c1 c2 c3 c4 c5 c6 c7 c8 c9 c11 c12 c13 c14 c15 c16 c17 c18 c19 A n c _ _ HN.out).mono ?_
        rintro e w1 ⟨rfl, hb⟩
        have HO1 := hide (HO.out.below hb)
        have HN1 := hide (HN.out.below hb)
        clear HO HN hb hct q1 q2 q3 q4 q5 q6 q7 q8 q9 q10 q11 q12 q14 q15 q16 q17 q18 q19
        have q1 : _ = some c1 := HO1.out.a 1
        go_wp2_with fail
        refine (tell_no _ _ _ HN1.out).mono ?_
        rintro e w2 ⟨rfl, hb⟩
        have hb' := hb.trans ((Below.refl _ w2).alloc hb.size (.cells #[.bool false, .int .i64 0, .int .i64 0, .int .i64 0, .int .i64 0, .int .i64 0, .int .i64 0, .slice none 0 0] 47))
        have HO2 := hide (HO1.out.below hb')
        have HN2 := hide (HN1.out.below hb')
        clear HO1 HN1 hb hb' q1
        have q1 : _ = some c1 := HO2.out.a 1
        have q14 : _ = some c14 := HO2.out.a 14
        have q15 : _ = some c15 := HO2.out.a 15
        have q16 : _ = some c16 := HO2.out.a 16
        have q17 : _ = some c17 := HO2.out.a 17
        have q18 : _ = some c18 := HO2.out.a 18
        have q19 : _ = some c19 := HO2.out.a 19
        go_wp2_with (go_at_call 9; refine (end_no _ _ _ HN2.out).mono ?_; rintro e w' ⟨rfl, rfl⟩)
        refine (do_no _ c0 c1 c2 c3 c4 c5 c6 c7 c8 c9 c11 c12 c13 c14 c15 c16 c17 c18 c19 A n c _ HN2.out).mono ?_
        rintro e w3 ⟨rfl, hb⟩
        have HO3 := hide (HO2.out.below hb)
        have HN3 := hide (HN2.out.below hb)
        clear HO2 HN2 hb q1 q14 q15 q16 q17 q18 q19
        have q1 : _ = some c1 := HO3.out.a 1
        go_wp2_with (first
          | (go_at_call 11; refine (calls_no _ _ _ HN3.out).mono ?_; rintro e w' ⟨rfl, rfl⟩)
          | (go_at_call 12; refine (open_no _ _ _ HN3.out).mono ?_; rintro e w' ⟨rfl, rfl⟩)
          | (go_at_call 13; refine (over_no _ _ _ HN3.out).mono ?_; rintro e w' ⟨rfl, rfl⟩)
          | (go_at_call 14; refine (ended_no _ _ _ HN3.out).mono ?_; rintro e w' ⟨rfl, rfl⟩)
          | (go_at_call 15; refine (point_no _ _ _ _ HN3.out).mono ?_; rintro e w' ⟨rfl, rfl⟩))
        go_quiet (first
          | (go_at_call 16; refine quiet_left (picks_no _ _ _ ?_); exact HN3.out)
          | (go_at_call 17; refine quiet_left (left_no _ _ _ ?_); exact HN3.out)
          | (go_at_call 18; refine quiet_left (waiting_no _ _ _ ?_); exact HN3.out)
          | (go_at_call 19; refine quiet_left (messages_no _ _ ?_); exact HN3.out)
          | (go_at_call 20; refine quiet_left (odd_no _ _ ?_); exact HN3.out))
        go_wp2_with fail
        go_roundw
        case rel => exact ⟨k + 1, by omega, by go_num, hide (HO3.out.below (below_drewN (Below.refl _ _) _))⟩
        case measure => simp [intOf]; omega
      · obtain rfl : k = 2 := by omega
        have HB := hide HO.out.b
        go_wp2_with fail
        refine (copy_no _ _ (.inl rfl)).mono ?_
        rintro e w' ⟨rfl, rfl⟩
        go_wp2
        go_ret
        exact ⟨rfl, HB.out⟩
set_option maxRecDepth 100000 in
theorem walk {H : Type} {enc : TypeId × Value → H} {base : Nat} (W : World) (v0 : Value) (d0 : DataW H) (p0 : List MemPlace) (o0 : Value.okWide Tryz.prog W .any base 28 v0) (r0 : DataW.Trod enc Tryz.prog W 0 (fun _ => true) true 28 v0 d0 p0) :
    Calls Tryz.prog 3 #[v0] W fun e w' => e = .returned (.bool true) ∧ Below W.heap.size W w' := by
  obtain ⟨cs, rfl, hsz⟩ := okWide_struct Tryz.underlying28 o0
  obtain ⟨l⟩ := cs
  have hC : Tryz.prog.cellsOf 28 = 20 := by kernel_rfl
  have hC2 : Tryz.prog.cellsOf 24 = 11 := by kernel_rfl
  have hC3 : Tryz.prog.cellsOf 22 = 1 := by kernel_rfl
  match l, hsz.trans hC with
  | [c0, c1, c2, c3, c4, c5, c6, c7, c8, c9, c10, c11, c12, c13, c14, c15, c16, c17, c18, c19], _ =>
    obtain ⟨fuel, hf⟩ := r0
    obtain ⟨xs, m, _, _, _, hlen, hg⟩ := DataW.trod_struct Tryz.underlying28 hf
    have h2 : DataW.trod enc Tryz.prog W 0 (fun _ => true) true m 24 (([c0, c1, c2, c3, c4, c5, c6, c7, c8, c9, c10, c11, c12, c13, c14, c15, c16, c17, c18, c19].drop 2).take (Tryz.prog.cellsOf 24)) = xs[2]? := hg 2 _ rfl
    rw [hC2, List.getElem?_eq_getElem (show 2 < xs.length by rw [hlen]; decide)] at h2
    have h2' : DataW.trod enc Tryz.prog W 0 (fun _ => true) true m 24 [c2, c3, c4, c5, c6, c7, c8, c9, c10, c11, c12] = some (xs[2]'(by rw [hlen]; decide)) := h2
    obtain ⟨ys, m', _, _, _, hlen', hg'⟩ := DataW.trod_struct Tryz.underlying24 h2'
    have h8 : DataW.trod enc Tryz.prog W 0 (fun _ => true) true m' 22 (([c2, c3, c4, c5, c6, c7, c8, c9, c10, c11, c12].drop 8).take (Tryz.prog.cellsOf 22)) = ys[8]? := hg' 8 _ rfl
    rw [hC3, List.getElem?_eq_getElem (show 8 < ys.length by rw [hlen']; decide)] at h8
    have h8' : DataW.trod enc Tryz.prog W 0 (fun _ => true) true m' 22 [c10] = some (ys[8]'(by rw [hlen']; decide)) := h8
    obtain ⟨A, n, c, rfl⟩ : ∃ A n c, c10 = .slice A n c := by
      rcases DataW.trod_slice Tryz.underlying22 h8' with h0 | ⟨a, len, cap, _, _, _, _, h0, _⟩
      · exact ⟨none, 0, 0, by simpa using h0.1⟩
      · exact ⟨some a, len, cap, by simpa using h0⟩
    exact law_any c0 c1 c2 c3 c4 c5 c6 c7 c8 c9 c11 c12 c13 c14 c15 c16 c17 c18 c19 A n c W
end Go.Proofs.YtccphiehocdfiaaGreatDoor.CoreNilW
