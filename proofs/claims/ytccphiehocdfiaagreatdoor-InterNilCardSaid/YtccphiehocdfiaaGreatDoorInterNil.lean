/- The walk of the statement InterNil: of any pick; without conditions. -/
import Derived.Test.YtccphiehocdfiaaGreatDoorRows
import Derived.Test.YtccphiehocdfiaaGreatDoorStructs
import Derived.Test.YtccphiehocdfiaaGreatDoorFenceNil
import Derived.Test.YtccphiehocdfiaaGreatDoorQuietBelow
namespace Go.Proofs.YtccphiehocdfiaaGreatDoor.InterNilW
open Go.Joins Go.ChangeShapes Go.WideShapes Go.RowKit Go.Deep Go.Shelf Go.Proofs.YtccphiehocdfiaaGreatDoor Go.Proofs.YtccphiehocdfiaaGreatDoor.FenceNilW
attribute [local go_sem] Oper.semAt_some
set_option linter.unusedVariables false
set_option linter.unusedSimpArgs false
set_option maxRecDepth 100000 in
theorem end_no (t : Option Addr) (i : Int) (w : World) (h : NM w t) : Calls Tryz.prog 25 #[.pointer t, .int .i64 i] w fun e w' => e = .returned (.tuple #[.int .u8 0, .int .u8 0]) ∧ w = w' := by
  have H := hide h
  clear h
  go_enter Tryz.func25, Tryz.ntmps25
  go_wp2_with (go_at_call 61; refine (there_no _ _ _ H.out).mono ?_; rintro e w' ⟨rfl, rfl⟩)
  go_ret2
  exact ⟨rfl, rfl⟩
set_option maxRecDepth 100000 in
theorem do_no (t : Option Addr) (kd rk ca fr sq vl : Int) (w : World) (h : NM w t) : Calls Tryz.prog 26 #[.pointer t, .agg #[.int .u8 kd, .int .i64 rk, .int .i64 ca, .int .i64 fr, .int .i64 sq, .int .i64 vl]] w fun e w' => e = .returned (.int .i64 1) ∧ Below w.heap.size w w' := by
  have H := hide (h.alloc (.cells #[.int .u8 kd, .int .i64 rk, .int .i64 ca, .int .i64 fr, .int .i64 sq, .int .i64 vl] 26))
  clear h
  go_enter Tryz.func26, Tryz.ntmps26
  go_wp2_with (go_at_call 62; refine (made_no _ _ H.out).mono ?_; rintro e w' ⟨rfl, rfl⟩)
  go_ret
  exact ⟨rfl, ((Below.refl _ _).alloc (Nat.le_refl _) _)⟩
set_option maxRecDepth 100000 in
theorem sig_no (t : Option Addr)  (w : World) (h : NM w t) : Calls Tryz.prog 28 #[.pointer t] w fun e w' => e = .returned (.slice none 0 0) ∧ w = w' := by
  have H := hide h
  clear h
  go_enter Tryz.func28, Tryz.ntmps28
  go_wp2_with (go_at_call 62; refine (made_no _ _ H.out).mono ?_; rintro e w' ⟨rfl, rfl⟩)
  go_ret
  exact ⟨rfl, rfl⟩
set_option maxRecDepth 100000 in
theorem done_no (t : Option Addr)  (w : World) (h : NM w t) : Calls Tryz.prog 30 #[.pointer t] w fun e w' => e = .returned (.int .i64 0) ∧ w = w' := by
  have H := hide h
  clear h
  go_enter Tryz.func30, Tryz.ntmps30
  go_wp2_with (go_at_call 62; refine (made_no _ _ H.out).mono ?_; rintro e w' ⟨rfl, rfl⟩)
  go_ret
  exact ⟨rfl, rfl⟩
set_option maxRecDepth 100000 in
theorem core_no (t : Option Addr)  (w : World) (h : NM w t) : Calls Tryz.prog 33 #[.pointer t] w fun e w' => e = .returned (.pointer none) ∧ w = w' := by
  have H := hide h
  clear h
  go_enter Tryz.func33, Tryz.ntmps33
  go_wp2_with (go_at_call 62; refine (made_no _ _ H.out).mono ?_; rintro e w' ⟨rfl, rfl⟩)
  go_ret
  exact ⟨rfl, rfl⟩
set_option maxRecDepth 100000 in
theorem copy_no (t : Option Addr)  (w : World) (h : NM w t) : Calls Tryz.prog 34 #[.pointer t] w fun e w' => e = .returned (.pointer none) ∧ w = w' := by
  have H := hide h
  clear h
  go_enter Tryz.func34, Tryz.ntmps34
  go_wp2_with (go_at_call 62; refine (made_no _ _ H.out).mono ?_; rintro e w' ⟨rfl, rfl⟩)
  go_ret
  exact ⟨rfl, rfl⟩
set_option maxRecDepth 100000 in
theorem same_nil (w : World) : Calls Tryz.prog 35 #[.pointer none, .pointer none] w fun e w' => e = .returned (.bool true) ∧ w = w' := by
  go_enter Tryz.func35, Tryz.ntmps35
  go_wp2
  go_ret
  exact ⟨rfl, rfl⟩
set_option maxRecDepth 100000 in
theorem enabledP_no (t : Option Addr) (kd rk ca fr sq vl : Int) (w : World) (h : NM w t) : Calls Tryz.prog 63 #[.pointer t, .agg #[.int .u8 kd, .int .i64 rk, .int .i64 ca, .int .i64 fr, .int .i64 sq, .int .i64 vl]] w fun e w' => e = .returned (.bool false) ∧ Below w.heap.size w w' := by
  have H := hide (h.alloc (.cells #[.int .u8 kd, .int .i64 rk, .int .i64 ca, .int .i64 fr, .int .i64 sq, .int .i64 vl] 26))
  clear h
  go_enter Tryz.func63, Tryz.ntmps63
  go_wp2_with fail
  go_quiet (first | (go_at_call 61; refine quiet_left (there_no _ _ _ ?_); exact H.out))
  go_wp2
  go_ret
  exact ⟨rfl, below_drewN ((Below.refl _ _).alloc (Nat.le_refl _) _) _⟩
set_option maxRecDepth 100000 in
set_option maxHeartbeats 2000000 in
theorem forcedP_no (t : Option Addr) (kd rk ca fr sq vl : Int) (w : World) (h : NM w t) : Calls Tryz.prog 32 #[.pointer t, .agg #[.int .u8 kd, .int .i64 rk, .int .i64 ca, .int .i64 fr, .int .i64 sq, .int .i64 vl]] w fun e w' => e = .returned (.bool false) ∧ Below w.heap.size w w' := by
  have H := hide (h.alloc (.cells #[.int .u8 kd, .int .i64 rk, .int .i64 ca, .int .i64 fr, .int .i64 sq, .int .i64 vl] 26))
  have hne : Nonempty (BelowOf (w.alloc (.cells #[.int .u8 kd, .int .i64 rk, .int .i64 ca, .int .i64 fr, .int .i64 sq, .int .i64 vl] 26))) := ⟨⟨_, Below.refl _ _⟩⟩
  have HN : ∀ p : BelowOf (w.alloc (.cells #[.int .u8 kd, .int .i64 rk, .int .i64 ca, .int .i64 fr, .int .i64 sq, .int .i64 vl] 26)), Hid (NM p.world t) := fun p => H.out.below p.below
  have q0 : ∀ p : BelowOf (w.alloc (.cells #[.int .u8 kd, .int .i64 rk, .int .i64 ca, .int .i64 fr, .int .i64 sq, .int .i64 vl] 26)), p.world.cell? ⟨w.heap.size, 0, none⟩ = some (.int .u8 kd) := fun p => p.cell (by simp) (World.cell?_alloc_at _ _ _ _ rfl)
  have q1 : ∀ p : BelowOf (w.alloc (.cells #[.int .u8 kd, .int .i64 rk, .int .i64 ca, .int .i64 fr, .int .i64 sq, .int .i64 vl] 26)), p.world.cell? ⟨w.heap.size, 1, none⟩ = some (.int .i64 rk) := fun p => p.cell (by simp) (World.cell?_alloc_at _ _ _ _ rfl)
  have q2 : ∀ p : BelowOf (w.alloc (.cells #[.int .u8 kd, .int .i64 rk, .int .i64 ca, .int .i64 fr, .int .i64 sq, .int .i64 vl] 26)), p.world.cell? ⟨w.heap.size, 2, none⟩ = some (.int .i64 ca) := fun p => p.cell (by simp) (World.cell?_alloc_at _ _ _ _ rfl)
  have q3 : ∀ p : BelowOf (w.alloc (.cells #[.int .u8 kd, .int .i64 rk, .int .i64 ca, .int .i64 fr, .int .i64 sq, .int .i64 vl] 26)), p.world.cell? ⟨w.heap.size, 3, none⟩ = some (.int .i64 fr) := fun p => p.cell (by simp) (World.cell?_alloc_at _ _ _ _ rfl)
  have q4 : ∀ p : BelowOf (w.alloc (.cells #[.int .u8 kd, .int .i64 rk, .int .i64 ca, .int .i64 fr, .int .i64 sq, .int .i64 vl] 26)), p.world.cell? ⟨w.heap.size, 4, none⟩ = some (.int .i64 sq) := fun p => p.cell (by simp) (World.cell?_alloc_at _ _ _ _ rfl)
  have q5 : ∀ p : BelowOf (w.alloc (.cells #[.int .u8 kd, .int .i64 rk, .int .i64 ca, .int .i64 fr, .int .i64 sq, .int .i64 vl] 26)), p.world.cell? ⟨w.heap.size, 5, none⟩ = some (.int .i64 vl) := fun p => p.cell (by simp) (World.cell?_alloc_at _ _ _ _ rfl)
  clear h
  go_enter Tryz.func32, Tryz.ntmps32
  go_wp2_with fail
  refine wp_region_quiet_below (by kernel_rfl) (by kernel_rfl) ?_
  repeat (go_big_quiet_step (first | (go_at_call 63; refine calls_below (enabledP_no _ _ _ _ _ _ _ _ (HN _).out))))
  refine wpQuiet_nil ?_
  rintro _ ⟨⟨Wq, hq⟩, rfl⟩
  go_wp2
  go_ret
  exact ⟨rfl, bel1 _ hq⟩
set_option maxRecDepth 100000 in
theorem terminal_yes (t : Option Addr) (w : World) (h : NM w t) : Calls Tryz.prog 31 #[.pointer t] w fun e w' => e = .returned (.bool true) ∧ Below w.heap.size w w' := by
  have H := hide h
  refine (callsIn_wide (n := 3)).1 ?_
  refine callsIn_of_wp_marks Tryz.func31 rfl trivial ?_ rfl
  simp only [Tryz.ntmps31, List.size_toArray, List.length_cons, List.length_nil, Nat.reduceAdd, Nat.reduceSub, Array.replicate_succ, Array.replicate_zero, List.push_toArray, List.append_toArray, List.nil_append, List.cons_append]
  gi_wp2_with (refine ⟨trivial, ?_⟩; gi_at_call 67; refine (each_no _ _).mono ?_; rintro e w' ⟨rfl, rfl⟩)
  have b0 := (Boxed.new w 4 (.bool false)).alloc (.cells #[.pointer t] 66)
  have b1 := Boxed.new (w.alloc (.cells #[.bool false] 4)) 66 (.pointer t)
  have hB0 : Below w.heap.size w ((w.alloc (.cells #[.bool false] 4)).alloc (.cells #[.pointer t] 66)) := ((Below.refl _ w).alloc (Nat.le_refl _) _).alloc (by simp) _
  simp only [World.size_alloc] at b1
  have hsz : ((w.alloc (.cells #[.bool false] 4)).alloc (.cells #[.pointer t] 66)).heap.size = w.heap.size + 2 := by simp
  have hN := h.below hB0
  generalize ((w.alloc (.cells #[.bool false] 4)).alloc (.cells #[.pointer t] 66)) = W0 at *
  refine wpIn_rangeFunc_ownG rfl (by omega) (gf := 121) (lb := #[.pointer (some ⟨w.heap.size + 1, 0, none⟩)]) rfl trivial (enters_of Tryz.func121 (by kernel_rfl) rfl)
    (each_stops (w.heap.size + 1) t W0 (by omega) b1.cell hN) belowK_t (belowK_b (Nat.le_refl _)) (Below.refl _ _) (fun x => x.elim)
    (fun pre W => Boxed W w.heap.size 4 (.bool false) ∧ Below w.heap.size w W)
    (fun _ _ _ => False)
    (OwnFrom.and (Own.from (fun s X Y row hs hg hrow => boxed_own (β := Unit) _ _ (fun _ => _) () X Y row hs hg hrow) _) (ownFrom_below (by omega) (by omega)))
    (fun _ _ _ _ _ hs _ _ => hs)
    ⟨b0, hB0⟩
    (fun x => x.elim) ?assign ?body ?done ?stop
  case assign =>
    intro l0 x W K hK
    exact x.elim
  case body =>
    rintro l0 pre x W _ hlen
    exact x.elim
  case done =>
    rintro D ys W hD rfl ⟨c0, hB⟩ hK
    have hk0 := c0.cell
    have hz0 := c0.frozen
    gi_wp2
    have c1 := c0.set (.bool true)
    have hK1 := (Below.heap_setCell W ⟨w.heap.size, 0, none⟩ (.bool true) D (by simp; omega)).trans hK
    have hB1 := hB.setCell (p := ⟨w.heap.size, 0, none⟩) (Nat.le_refl _) (.bool true)
    clear hk0 hz0 c0 hB hK
    generalize W.setCell ⟨w.heap.size, 0, none⟩ (.bool true) = W1 at *
    have hP := fun o' => belowK_b (w := W0) (Nat.le_refl _) W1 D _ o' hD hK1 rfl rfl
    have hv := (hP (Obj.deferred none)).cell (p := ⟨w.heap.size, 0, none⟩) (show w.heap.size < W0.heap.size by omega)
    rw [c1.cell] at hv
    refine ⟨by simp, .inl ⟨_, _, rfl, run_takeDeferred hK1, ?_⟩⟩
    have hle : w.heap.size ≤ W0.heap.size := by omega
    exact ⟨.bool true, by simp [results, Tryz.f31, go_sem, hv], rfl, hB1.trans ((hP _).mono hle)⟩
  case stop =>
    rintro D c pre W hD h
    exact h.elim

/-- What stands in the round: the pick's fields, the two states, the second of which nobody made. -/
def OkI (W wr : World) (gs g2 : Nat) (kd rk ca fr sq vl : Int) : Prop :=
  (W.heap.size < wr.heap.size ∧ gs < wr.heap.size ∧ g2 < wr.heap.size) ∧ (wr.cell? ⟨W.heap.size, 0, none⟩ = some (.int .u8 kd) ∧ wr.cell? ⟨W.heap.size, 1, none⟩ = some (.int .i64 rk) ∧ wr.cell? ⟨W.heap.size, 2, none⟩ = some (.int .i64 ca) ∧ wr.cell? ⟨W.heap.size, 3, none⟩ = some (.int .i64 fr) ∧ wr.cell? ⟨W.heap.size, 4, none⟩ = some (.int .i64 sq) ∧ wr.cell? ⟨W.heap.size, 5, none⟩ = some (.int .i64 vl)) ∧
    wr.cell? ⟨gs, 0, none⟩ = some (.pointer none) ∧ wr.cell? ⟨gs, 1, none⟩ = some (.pointer (some ⟨g2, 0, none⟩)) ∧ wr.cell? ⟨g2, 9, none⟩ = some (.pointer none) ∧ Below W.heap.size W wr
theorem OkI.below {W wr w' : World} {gs g2 : Nat} {kd rk ca fr sq vl : Int} (h : OkI W wr gs g2 kd rk ca fr sq vl) (hb : Below wr.heap.size wr w') : OkI W w' gs g2 kd rk ca fr sq vl := by
  obtain ⟨⟨h1, h2, h3⟩, ⟨d0, d1, d2, d3, d4, d5⟩, c4, c5, c6, hB⟩ := h
  have hs := hb.size
  exact ⟨⟨by omega, by omega, by omega⟩, ⟨(hb.cell (p := ⟨_, _, none⟩) h1).trans d0, (hb.cell (p := ⟨_, _, none⟩) h1).trans d1, (hb.cell (p := ⟨_, _, none⟩) h1).trans d2, (hb.cell (p := ⟨_, _, none⟩) h1).trans d3, (hb.cell (p := ⟨_, _, none⟩) h1).trans d4, (hb.cell (p := ⟨_, _, none⟩) h1).trans d5⟩, (hb.cell (p := ⟨_, _, none⟩) h2).trans c4,
    (hb.cell (p := ⟨_, _, none⟩) h2).trans c5, (hb.cell (p := ⟨_, _, none⟩) h3).trans c6, hB.trans (hb.mono (by omega))⟩
theorem OkI.nm {W wr : World} {gs g2 : Nat} {kd rk ca fr sq vl : Int} (h : OkI W wr gs g2 kd rk ca fr sq vl) (k : Nat) (hk : k < 2) : ∃ t, wr.cell? ⟨gs, k, none⟩ = some (.pointer t) ∧ NM wr t := by
  obtain ⟨⟨h1, h2, h3⟩, _, c4, c5, c6, hB⟩ := h
  rcases Nat.lt_or_ge k 1 with h | h
  · obtain rfl : k = 0 := by omega
    exact ⟨_, c4, .inl rfl⟩
  · obtain rfl : k = 1 := by omega
    exact ⟨_, c5, .inr ⟨g2, rfl, h3, c6⟩⟩
theorem OkI.all {W wr : World} {gs g2 : Nat} {kd rk ca fr sq vl : Int} {t : Option Addr} (h : Hid (OkI W wr gs g2 kd rk ca fr sq vl)) (hn : Hid (NM wr t)) : wr.cell? ⟨W.heap.size, 0, none⟩ = some (.int .u8 kd) ∧ wr.cell? ⟨W.heap.size, 1, none⟩ = some (.int .i64 rk) ∧ wr.cell? ⟨W.heap.size, 2, none⟩ = some (.int .i64 ca) ∧ wr.cell? ⟨W.heap.size, 3, none⟩ = some (.int .i64 fr) ∧ wr.cell? ⟨W.heap.size, 4, none⟩ = some (.int .i64 sq) ∧ wr.cell? ⟨W.heap.size, 5, none⟩ = some (.int .i64 vl) ∧ Hid (NM wr t) ∧ Hid (OkI W wr gs g2 kd rk ca fr sq vl) := by
  have h' := h.out
  obtain ⟨_, ⟨d0, d1, d2, d3, d4, d5⟩, _⟩ := h'
  exact ⟨d0, d1, d2, d3, d4, d5, hn, h⟩
theorem OkI.all2 {W w wr : World} {gs g2 : Nat} {kd rk ca fr sq vl : Int} {t : Option Addr} (h : Hid (OkI W w gs g2 kd rk ca fr sq vl)) (hn : Hid (NM w t)) (hb : Below w.heap.size w wr) : wr.cell? ⟨W.heap.size, 0, none⟩ = some (.int .u8 kd) ∧ wr.cell? ⟨W.heap.size, 1, none⟩ = some (.int .i64 rk) ∧ wr.cell? ⟨W.heap.size, 2, none⟩ = some (.int .i64 ca) ∧ wr.cell? ⟨W.heap.size, 3, none⟩ = some (.int .i64 fr) ∧ wr.cell? ⟨W.heap.size, 4, none⟩ = some (.int .i64 sq) ∧ wr.cell? ⟨W.heap.size, 5, none⟩ = some (.int .i64 vl) ∧ Hid (NM wr t) ∧ Hid (OkI W wr gs g2 kd rk ca fr sq vl) :=
  OkI.all (hide (h.out.below hb)) (hide (hn.out.below hb))
theorem OkI.hn {W wr : World} {gs g2 : Nat} {kd rk ca fr sq vl : Int} {t : Option Addr} (h : wr.cell? ⟨W.heap.size, 0, none⟩ = some (.int .u8 kd) ∧ wr.cell? ⟨W.heap.size, 1, none⟩ = some (.int .i64 rk) ∧ wr.cell? ⟨W.heap.size, 2, none⟩ = some (.int .i64 ca) ∧ wr.cell? ⟨W.heap.size, 3, none⟩ = some (.int .i64 fr) ∧ wr.cell? ⟨W.heap.size, 4, none⟩ = some (.int .i64 sq) ∧ wr.cell? ⟨W.heap.size, 5, none⟩ = some (.int .i64 vl) ∧ Hid (NM wr t) ∧ Hid (OkI W wr gs g2 kd rk ca fr sq vl)) : Hid (NM wr t) := h.2.2.2.2.2.2.1
theorem OkI.ho {W wr : World} {gs g2 : Nat} {kd rk ca fr sq vl : Int} {t : Option Addr} (h : wr.cell? ⟨W.heap.size, 0, none⟩ = some (.int .u8 kd) ∧ wr.cell? ⟨W.heap.size, 1, none⟩ = some (.int .i64 rk) ∧ wr.cell? ⟨W.heap.size, 2, none⟩ = some (.int .i64 ca) ∧ wr.cell? ⟨W.heap.size, 3, none⟩ = some (.int .i64 fr) ∧ wr.cell? ⟨W.heap.size, 4, none⟩ = some (.int .i64 sq) ∧ wr.cell? ⟨W.heap.size, 5, none⟩ = some (.int .i64 vl) ∧ Hid (NM wr t) ∧ Hid (OkI W wr gs g2 kd rk ca fr sq vl)) : Hid (OkI W wr gs g2 kd rk ca fr sq vl) := h.2.2.2.2.2.2.2
theorem OkI.all3 {W w wr : World} {gs g2 : Nat} {kd rk ca fr sq vl : Int} {t : Option Addr} (h : w.cell? ⟨W.heap.size, 0, none⟩ = some (.int .u8 kd) ∧ w.cell? ⟨W.heap.size, 1, none⟩ = some (.int .i64 rk) ∧ w.cell? ⟨W.heap.size, 2, none⟩ = some (.int .i64 ca) ∧ w.cell? ⟨W.heap.size, 3, none⟩ = some (.int .i64 fr) ∧ w.cell? ⟨W.heap.size, 4, none⟩ = some (.int .i64 sq) ∧ w.cell? ⟨W.heap.size, 5, none⟩ = some (.int .i64 vl) ∧ Hid (NM w t) ∧ Hid (OkI W w gs g2 kd rk ca fr sq vl)) (hb : Below w.heap.size w wr) : wr.cell? ⟨W.heap.size, 0, none⟩ = some (.int .u8 kd) ∧ wr.cell? ⟨W.heap.size, 1, none⟩ = some (.int .i64 rk) ∧ wr.cell? ⟨W.heap.size, 2, none⟩ = some (.int .i64 ca) ∧ wr.cell? ⟨W.heap.size, 3, none⟩ = some (.int .i64 fr) ∧ wr.cell? ⟨W.heap.size, 4, none⟩ = some (.int .i64 sq) ∧ wr.cell? ⟨W.heap.size, 5, none⟩ = some (.int .i64 vl) ∧ Hid (NM wr t) ∧ Hid (OkI W wr gs g2 kd rk ca fr sq vl) := OkI.all2 (OkI.ho h) (OkI.hn h) hb
set_option maxRecDepth 100000 in
set_option maxHeartbeats 4000000 in
theorem walk {H : Type} {enc : TypeId × Value → H} {base : Nat} (W : World) (v0 : Value) (d0 : DataW H) (p0 : List MemPlace) (o0 : Value.okWide Tryz.prog W .any base 26 v0) (r0 : DataW.Trod enc Tryz.prog W 0 (fun _ => true) true 26 v0 d0 p0) :
    Calls Tryz.prog 5 #[v0] W fun e w' => e = .returned (.bool true) ∧ Below W.heap.size W w' := by
  obtain ⟨c0, c1, c2, c3, c4, c5, y0, y1, y2, y3, y4, y5, fuel, rfl, _, _, h0, h1, h2, h3, h4, h5⟩ := open_agg6 Tryz.underlying26 (by kernel_rfl) (by kernel_rfl) o0 r0
  obtain ⟨kd, e0, _, _⟩ := DataW.trod_int Tryz.underlying5 h0
  obtain ⟨rk, e1, _, _⟩ := DataW.trod_int Tryz.underlying3 h1
  obtain ⟨ca, e2, _, _⟩ := DataW.trod_int Tryz.underlying3 h2
  obtain ⟨fr, e3, _, _⟩ := DataW.trod_int Tryz.underlying3 h3
  obtain ⟨sq, e4, _, _⟩ := DataW.trod_int Tryz.underlying3 h4
  obtain ⟨vl, e5, _, _⟩ := DataW.trod_int Tryz.underlying3 h5
  simp at e0 e1 e2 e3 e4 e5
  subst e0 e1 e2 e3 e4 e5
  clear o0 r0 h0 h1 h2 h3 h4 h5
  go_enter Tryz.func5, Tryz.ntmps5
  go_wp2_with fail
  go_loopw [5] (fun i wr => ∃ k : Nat, k ≤ 2 ∧ i = .int .i64 k ∧ OkI W wr (W.heap.size + 1 + 1) (W.heap.size + 1) kd rk ca fr sq vl) (fun i _ => 2 - (intOf i).toNat)
  case atStart =>
    refine ⟨0, by omega, rfl, ⟨by simp; omega, by simp, by simp⟩, ⟨?_, ?_, ?_, ?_, ?_, ?_⟩, ?_, ?_, ?_, ?_⟩
    iterate 6 · rw [World.cell?_alloc_past, World.cell?_alloc_past, World.cell?_alloc_at] <;> simp <;> omega
    · rw [World.cell?_alloc_at] <;> simp
    · rw [World.cell?_alloc_at] <;> simp
    · rw [World.cell?_alloc_past, World.cell?_alloc_at] <;> simp
    · exact (((Below.refl _ _).alloc (Nat.le_refl _) _).alloc (by simp) _).alloc (by simp; omega) _
  case round =>
    obtain ⟨k, hk, rfl, hok⟩ := hrel
    have HB := hok.2.2.2.2.2
    by_cases hlt : k < 2
    · obtain ⟨t, hct, hnm⟩ := hok.nm k hlt
      have Hok := hide hok
      obtain ⟨_, ⟨d0, d1, d2, d3, d4, d5⟩, _⟩ := hok
      have Hnm := hide hnm
      clear hnm HB
      go_wp2_with fail
      refine (end_no _ _ _ Hnm.out).mono ?_
      rintro e w' ⟨rfl, rfl⟩
      go_wp2_with fail
      have Hok2' := hide (Hok.out.below (Below.refl _ wr).drew)
      have Hnm2' := hide (Hnm.out.below (Below.refl _ wr).drew)
      clear Hok Hnm
      go_cut [75] from 13 to 74 (fun x wx => x = .bool false ∧ OkI W wx (W.heap.size + 1 + 1) (W.heap.size + 1) kd rk ca fr sq vl)
      case first =>
        go_region_held3 (fun w' => w'.cell? ⟨W.heap.size, 0, none⟩ = some (.int .u8 kd) ∧ w'.cell? ⟨W.heap.size, 1, none⟩ = some (.int .i64 rk) ∧ w'.cell? ⟨W.heap.size, 2, none⟩ = some (.int .i64 ca) ∧ w'.cell? ⟨W.heap.size, 3, none⟩ = some (.int .i64 fr) ∧ w'.cell? ⟨W.heap.size, 4, none⟩ = some (.int .i64 sq) ∧ w'.cell? ⟨W.heap.size, 5, none⟩ = some (.int .i64 vl) ∧ Hid (NM w' t) ∧ Hid (OkI W w' (W.heap.size + 1 + 1) (W.heap.size + 1) kd rk ca fr sq vl))
          (first | (exact OkI.all (by assumption) (by assumption)) | (exact OkI.all2 (by assumption) (by assumption) (by assumption)) | assumption | (exact OkI.all3 (by assumption) (by assumption)))
          (first
            | (go_at_call 26; refine (do_no _ _ _ _ _ _ _ _ (Hid.out ?hn)).mono ?_; (case hn => first | assumption | exact OkI.hn (by assumption)); rintro e w' ⟨rfl, hb⟩)
            | (go_at_call 27; refine (enabled_no _ _ (Hid.out ?hn)).mono ?_; (case hn => first | assumption | exact OkI.hn (by assumption)); rintro e w' ⟨rfl, hb⟩)
            | (go_at_call 28; refine (sig_no _ _ (Hid.out ?hn)).mono ?_; (case hn => first | assumption | exact OkI.hn (by assumption)); rintro e w' ⟨rfl, rfl⟩)
            | (go_at_call 29; refine (memory_no _ _ _ (Hid.out ?hn)).mono ?_; (case hn => first | assumption | exact OkI.hn (by assumption)); rintro e w' ⟨rfl, rfl⟩)
            | (go_at_call 30; refine (done_no _ _ (Hid.out ?hn)).mono ?_; (case hn => first | assumption | exact OkI.hn (by assumption)); rintro e w' ⟨rfl, rfl⟩)
            | (go_at_call 31; refine (terminal_yes _ _ (Hid.out ?hn)).mono ?_; (case hn => first | assumption | exact OkI.hn (by assumption)); rintro e w' ⟨rfl, hb⟩)
            | (go_at_call 32; refine (forcedP_no _ _ _ _ _ _ _ _ (Hid.out ?hn)).mono ?_; (case hn => first | assumption | exact OkI.hn (by assumption)); rintro e w' ⟨rfl, hb⟩)
            | (go_at_call 33; refine (core_no _ _ (Hid.out ?hn)).mono ?_; (case hn => first | assumption | exact OkI.hn (by assumption)); rintro e w' ⟨rfl, rfl⟩))
        go_wp2_with fail
        go_meet
        exact ⟨rfl, (OkI.ho (by assumption)).out⟩
      case rest =>
      obtain ⟨rfl, hok4⟩ := hcut
      go_wp2
      go_roundw
      case rel => exact ⟨k + 1, by omega, by go_num, hok4⟩
      case measure => simp [intOf]; omega
    · have hge : 2 ≤ k := by omega
      clear hok
      go_wp2_with fail
      refine (copy_no _ _ (.inl rfl)).mono ?_
      rintro e w' ⟨rfl, rfl⟩
      go_wp2_with fail
      refine (same_nil _).mono ?_
      rintro e w' ⟨rfl, rfl⟩
      go_wp2
      go_ret
      exact ⟨rfl, HB⟩
end Go.Proofs.YtccphiehocdfiaaGreatDoor.InterNilW
