/- The reference: one choice, points, whether a row may be. -/
import Derived.Test.YtnmaclpjddafnaaRows
import Derived.Test.YtnmaclpjddafnaaSignB
namespace Go.Proofs.Ytnmaclpjddafnaa
open Go.RowKit
set_option linter.unusedVariables false
set_option linter.unusedSimpArgs false
set_option maxRecDepth 100000 in
set_option maxHeartbeats 1000000 in
theorem one_b (t : Ch) (w : World) : Calls Try.prog 12 #[t.val] w fun e w' => e = .returned (.bool (mayC t)) ∧ Below w.heap.size w w' := by
  obtain ⟨r, c, f, s, v⟩ := t
  unfold Ch.val
  simp only
  by_cases k0 : (0 : Int) ≤ r
  case neg =>
    have E : Hid (mayC ⟨r, c, f, s, v⟩ = false) := hide (by simp only [mayC, Bool.and_eq_false_iff, decide_eq_false_iff_not]; omega)
    rw [E.out]
    go_enter Try.func12, Try.ntmps12
    go_wp2_with fail
    go_ret
    exact ⟨rfl, (Below.refl _ _).alloc (Nat.le_refl _) _⟩
  by_cases k1 : r < (64 : Int)
  case neg =>
    have E : Hid (mayC ⟨r, c, f, s, v⟩ = false) := hide (by simp only [mayC, Bool.and_eq_false_iff, decide_eq_false_iff_not]; omega)
    rw [E.out]
    go_enter Try.func12, Try.ntmps12
    go_wp2_with fail
    go_ret
    exact ⟨rfl, (Below.refl _ _).alloc (Nat.le_refl _) _⟩
  by_cases k2 : (0 : Int) ≤ f
  case neg =>
    have E : Hid (mayC ⟨r, c, f, s, v⟩ = false) := hide (by simp only [mayC, Bool.and_eq_false_iff, decide_eq_false_iff_not]; omega)
    rw [E.out]
    go_enter Try.func12, Try.ntmps12
    go_wp2_with fail
    go_ret
    exact ⟨rfl, (Below.refl _ _).alloc (Nat.le_refl _) _⟩
  by_cases k3 : f < (64 : Int)
  case neg =>
    have E : Hid (mayC ⟨r, c, f, s, v⟩ = false) := hide (by simp only [mayC, Bool.and_eq_false_iff, decide_eq_false_iff_not]; omega)
    rw [E.out]
    go_enter Try.func12, Try.ntmps12
    go_wp2_with fail
    go_ret
    exact ⟨rfl, (Below.refl _ _).alloc (Nat.le_refl _) _⟩
  by_cases k4 : (0 : Int) ≤ c
  case neg =>
    have E : Hid (mayC ⟨r, c, f, s, v⟩ = false) := hide (by simp only [mayC, Bool.and_eq_false_iff, decide_eq_false_iff_not]; omega)
    rw [E.out]
    go_enter Try.func12, Try.ntmps12
    go_wp2_with fail
    go_ret
    exact ⟨rfl, (Below.refl _ _).alloc (Nat.le_refl _) _⟩
  by_cases k5 : c ≤ (1099511627776 : Int)
  case neg =>
    have E : Hid (mayC ⟨r, c, f, s, v⟩ = false) := hide (by simp only [mayC, Bool.and_eq_false_iff, decide_eq_false_iff_not]; omega)
    rw [E.out]
    go_enter Try.func12, Try.ntmps12
    go_wp2_with fail
    go_ret
    exact ⟨rfl, (Below.refl _ _).alloc (Nat.le_refl _) _⟩
  by_cases k6 : (0 : Int) ≤ s
  case neg =>
    have E : Hid (mayC ⟨r, c, f, s, v⟩ = false) := hide (by simp only [mayC, Bool.and_eq_false_iff, decide_eq_false_iff_not]; omega)
    rw [E.out]
    go_enter Try.func12, Try.ntmps12
    go_wp2_with fail
    go_ret
    exact ⟨rfl, (Below.refl _ _).alloc (Nat.le_refl _) _⟩
  by_cases k7 : s ≤ (1099511627776 : Int)
  case neg =>
    have E : Hid (mayC ⟨r, c, f, s, v⟩ = false) := hide (by simp only [mayC, Bool.and_eq_false_iff, decide_eq_false_iff_not]; omega)
    rw [E.out]
    go_enter Try.func12, Try.ntmps12
    go_wp2_with fail
    go_ret
    exact ⟨rfl, (Below.refl _ _).alloc (Nat.le_refl _) _⟩
  by_cases k8 : (-1 : Int) ≤ v
  case neg =>
    have E : Hid (mayC ⟨r, c, f, s, v⟩ = false) := hide (by simp only [mayC, Bool.and_eq_false_iff, decide_eq_false_iff_not]; omega)
    rw [E.out]
    go_enter Try.func12, Try.ntmps12
    go_wp2_with fail
    go_ret
    exact ⟨rfl, (Below.refl _ _).alloc (Nat.le_refl _) _⟩
  by_cases k9 : v ≤ (7 : Int)
  case neg =>
    have E : Hid (mayC ⟨r, c, f, s, v⟩ = false) := hide (by simp only [mayC, Bool.and_eq_false_iff, decide_eq_false_iff_not]; omega)
    rw [E.out]
    go_enter Try.func12, Try.ntmps12
    go_wp2_with fail
    go_ret
    exact ⟨rfl, (Below.refl _ _).alloc (Nat.le_refl _) _⟩
  have E : Hid (mayC ⟨r, c, f, s, v⟩ = true) := hide (by simp only [mayC, Bool.and_eq_true, decide_eq_true_eq]; omega)
  rw [E.out]
  go_enter Try.func12, Try.ntmps12
  go_wp2_with fail
  go_ret
  exact ⟨rfl, (Below.refl _ _).alloc (Nat.le_refl _) _⟩
set_option maxRecDepth 100000 in
set_option maxHeartbeats 1000000 in
theorem less_b (x y : Ch) (w : World) : Calls Try.prog 13 #[x.val, y.val] w fun e w' => e = .returned (.bool (ltP x y)) ∧ Below w.heap.size w w' := by
  obtain ⟨r, c, f, s, v⟩ := x
  obtain ⟨r', c', f', s', v'⟩ := y
  unfold Ch.val
  simp only
  have fin := ((Below.refl w.heap.size w).alloc (Nat.le_refl _) (.cells #[.int .i64 r, .int .i64 c, .int .i64 f, .int .i64 s, .int .i64 v] 24)).alloc (by simp) (.cells #[.int .i64 r', .int .i64 c', .int .i64 f', .int .i64 s', .int .i64 v'] 24)
  have FIN := hide fin
  clear fin
  by_cases h1 : r < r'
  · have E : Hid (ltP ⟨r, c, f, s, v⟩ ⟨r', c', f', s', v'⟩ = true) := hide (by simp [ltP, h1])
    rw [E.out]
    go_enter Try.func13, Try.ntmps13
    go_wp2_with fail
    go_ret
    exact ⟨rfl, FIN.out⟩
  by_cases h2 : r = r'
  · subst h2
    have hd : decide (r < r) = false := by simp
    by_cases h3 : c < c'
    · have E : Hid (ltP ⟨r, c, f, s, v⟩ ⟨r, c', f', s', v'⟩ = true) := hide (by simp [ltP, h3])
      rw [E.out]
      go_enter Try.func13, Try.ntmps13
      go_wp2_with fail
      go_ret
      exact ⟨rfl, FIN.out⟩
    · have E : Hid (ltP ⟨r, c, f, s, v⟩ ⟨r, c', f', s', v'⟩ = false) := hide (by simp only [ltP, Bool.or_eq_false_iff, Bool.and_eq_false_iff, decide_eq_false_iff_not]; omega)
      rw [E.out]
      go_enter Try.func13, Try.ntmps13
      go_wp2_with fail
      go_ret
      exact ⟨by first | (simp; done) | (simp; omega), FIN.out⟩
  · have E : Hid (ltP ⟨r, c, f, s, v⟩ ⟨r', c', f', s', v'⟩ = false) := hide (by simp only [ltP, Bool.or_eq_false_iff, Bool.and_eq_false_iff, decide_eq_false_iff_not]; omega)
    rw [E.out]
    have h2' : (r == r') = false := by simpa using h2
    go_enter Try.func13, Try.ntmps13
    go_wp2_with fail
    go_ret
    exact ⟨by first | (simp; done) | (simp; omega), FIN.out⟩
set_option maxRecDepth 100000 in
set_option maxHeartbeats 4000000 in
theorem May_bigB (A : Option Addr) (cap : Nat) (l : List Ch) (w : World) (h : CRow w A l) (hl : l.length ≤ 1000000) :
    Calls Try.prog 11 #[.slice A l.length cap] w fun e w' => e = .returned (.bool (mayL l)) ∧ Below w.heap.size w w' := by
  have H := hide h
  clear h
  go_enter Try.func11, Try.ntmps11
  go_wp2_with fail
  go_loopw [3] (fun vi wr => ∃ i : Nat, i ≤ l.length ∧ vi = .int .i64 i ∧ Hid (mayFrom l i = true) ∧ Hid (Below w.heap.size w wr)) (fun vi _ => l.length - (intOf vi).toNat)
  case atStart => exact ⟨0, Nat.zero_le _, rfl, hide rfl, hide (Below.refl _ _)⟩
  case round =>
    obtain ⟨i, hi, rfl, HM, HB⟩ := hrel
    by_cases hlt : i < l.length
    · obtain ⟨a, rfl, ha, hok, h0, h1, h2, h3, h4⟩ := (H.out.below HB.out).at_ hlt
      have ltI : (i : Int) < (l.length : Int) := by omega
      have HM2 := mayFrom_succ l i
      rw [HM.out, getD_at hlt, Bool.true_and] at HM2
      have MC := hide (one_b l[i])
      have PA : Hid (∀ k (hk : k < l.length) w', Calls Try.prog 13 #[(l[k]).val, (l[i]).val] w' fun e w'' => e = .returned (.bool (ltP l[k] l[i])) ∧ Below w'.heap.size w' w'') := hide fun k hk w' => less_b _ _ w'
      have RR := hide (H.out.below HB.out)
      have hai : (a.add (i * 5)).block < wr.heap.size := by rw [block_of_add]; exact ha
      rcases hm : mayC l[i] with _ | _
      · have E := hide (mayL_no hlt (by rw [HM2, hm]; rfl))
        rw [hm] at MC
        clear HM2 hm hok
        generalize l[i] = tk at *
        obtain ⟨r, c, f, s, v⟩ := tk
        simp only at h0 h1 h2 h3 h4 MC PA
        unfold Ch.val at MC
        simp only at MC
        have NE : Nonempty (BelowOf wr) := ⟨⟨wr, Below.refl _ _⟩⟩
        have q0 : ∀ p : BelowOf wr, p.world.cell? (a.add (i * 5)) = some (.int .i64 r) := fun p => (p.below.cell hai).trans h0
        have q1 : ∀ p : BelowOf wr, p.world.cell? ⟨(a.add (i * 5)).block, (a.add (i * 5)).off + 1, none⟩ = some (.int .i64 c) := fun p => (p.below.cell (p := ⟨(a.add (i * 5)).block, (a.add (i * 5)).off + 1, none⟩) hai).trans h1
        have q2 : ∀ p : BelowOf wr, p.world.cell? ⟨(a.add (i * 5)).block, (a.add (i * 5)).off + 2, none⟩ = some (.int .i64 f) := fun p => (p.below.cell (p := ⟨(a.add (i * 5)).block, (a.add (i * 5)).off + 2, none⟩) hai).trans h2
        have q3 : ∀ p : BelowOf wr, p.world.cell? ⟨(a.add (i * 5)).block, (a.add (i * 5)).off + 3, none⟩ = some (.int .i64 s) := fun p => (p.below.cell (p := ⟨(a.add (i * 5)).block, (a.add (i * 5)).off + 3, none⟩) hai).trans h3
        have q4 : ∀ p : BelowOf wr, p.world.cell? ⟨(a.add (i * 5)).block, (a.add (i * 5)).off + 4, none⟩ = some (.int .i64 v) := fun p => (p.below.cell (p := ⟨(a.add (i * 5)).block, (a.add (i * 5)).off + 4, none⟩) hai).trans h4

        go_wp2_with fail
        refine wp_region_quiet_below (by kernel_rfl) (by kernel_rfl) ?_
        repeat (go_big_quiet_step (first
          | (go_at_call 12; refine calls_below (MC.out _))))

        refine wpQuiet_nil ?_
        rintro Wq ⟨⟨_, hq⟩, rfl⟩
        have HQ := hide (HB.out.trans (hq.mono HB.out.size))
        clear hq
        go_wp2_with fail
        go_ret
        exact ⟨by rw [E.out]; rfl, HQ.out⟩
      · rw [hm] at MC HM2
        rcases i with _ | k
        · have HM3 : Hid (mayFrom l (0 + 1) = true) := hide (by rw [HM2]; rfl)
          clear HM2 hm hok
          generalize l[0] = tk at *
          obtain ⟨r, c, f, s, v⟩ := tk
          simp only at h0 h1 h2 h3 h4 MC PA
          unfold Ch.val at MC
          simp only at MC
          rw [show a.add (0 * 5) = a by simp [Addr.add]] at h0 h1 h2 h3 h4
          have NE : Nonempty (BelowOf wr) := ⟨⟨wr, Below.refl _ _⟩⟩
          have q0 : ∀ p : BelowOf wr, p.world.cell? (a) = some (.int .i64 r) := fun p => (p.below.cell ha).trans h0
          have q1 : ∀ p : BelowOf wr, p.world.cell? ⟨(a).block, (a).off + 1, none⟩ = some (.int .i64 c) := fun p => (p.below.cell (p := ⟨(a).block, (a).off + 1, none⟩) ha).trans h1
          have q2 : ∀ p : BelowOf wr, p.world.cell? ⟨(a).block, (a).off + 2, none⟩ = some (.int .i64 f) := fun p => (p.below.cell (p := ⟨(a).block, (a).off + 2, none⟩) ha).trans h2
          have q3 : ∀ p : BelowOf wr, p.world.cell? ⟨(a).block, (a).off + 3, none⟩ = some (.int .i64 s) := fun p => (p.below.cell (p := ⟨(a).block, (a).off + 3, none⟩) ha).trans h3
          have q4 : ∀ p : BelowOf wr, p.world.cell? ⟨(a).block, (a).off + 4, none⟩ = some (.int .i64 v) := fun p => (p.below.cell (p := ⟨(a).block, (a).off + 4, none⟩) ha).trans h4

          go_wp2_with fail
          refine wp_region_quiet_below (by kernel_rfl) (by kernel_rfl) ?_
          repeat (go_big_quiet_step (first
            | (go_at_call 12; refine calls_below (MC.out _))))

          refine wpQuiet_nil ?_
          rintro Wq ⟨⟨_, hq⟩, rfl⟩
          have HQ := hide (HB.out.trans (hq.mono HB.out.size))
          clear hq
          go_wp2_with fail
          go_roundw
          case rel => exact ⟨0 + 1, by omega, by first | trivial | go_num, HM3, HQ⟩
          case measure => simp [intOf]; omega
        · have hk : k < l.length := by omega
          obtain ⟨a', ea, ha', _, g0, g1, g2, g3, g4⟩ := RR.out.at_ hk
          obtain rfl : a = a' := by simpa using ea
          have PB := hide (PA.out k hk)
          rw [getD_at (show k + 1 - 1 < l.length by omega)] at HM2
          have hab : (a.add (k * 5)).block < wr.heap.size := by rw [block_of_add]; exact ha'
          rcases hlt2 : ltP (l[k]'hk) l[k + 1] with _ | _
          · have E : Hid (mayL l = false) := hide (mayL_no hlt (by rw [HM2]; simp [hlt2]))
            clear HM2 hm hok PA
            rw [hlt2] at PB
            clear hlt2
            generalize l[k + 1] = tk at *
            obtain ⟨r, c, f, s, v⟩ := tk
            simp only at h0 h1 h2 h3 h4 MC
            unfold Ch.val at MC
            simp only at MC

            generalize l[k] = tk' at *
            obtain ⟨r', c', f', s', v'⟩ := tk'
            simp only at g0 g1 g2 g3 g4 PB
            unfold Ch.val at PB
            simp only at PB
            have NE : Nonempty (BelowOf wr) := ⟨⟨wr, Below.refl _ _⟩⟩
            have q0 : ∀ p : BelowOf wr, p.world.cell? (a.add ((k + 1) * 5)) = some (.int .i64 r) := fun p => (p.below.cell hai).trans h0
            have q1 : ∀ p : BelowOf wr, p.world.cell? ⟨(a.add ((k + 1) * 5)).block, (a.add ((k + 1) * 5)).off + 1, none⟩ = some (.int .i64 c) := fun p => (p.below.cell (p := ⟨(a.add ((k + 1) * 5)).block, (a.add ((k + 1) * 5)).off + 1, none⟩) hai).trans h1
            have q2 : ∀ p : BelowOf wr, p.world.cell? ⟨(a.add ((k + 1) * 5)).block, (a.add ((k + 1) * 5)).off + 2, none⟩ = some (.int .i64 f) := fun p => (p.below.cell (p := ⟨(a.add ((k + 1) * 5)).block, (a.add ((k + 1) * 5)).off + 2, none⟩) hai).trans h2
            have q3 : ∀ p : BelowOf wr, p.world.cell? ⟨(a.add ((k + 1) * 5)).block, (a.add ((k + 1) * 5)).off + 3, none⟩ = some (.int .i64 s) := fun p => (p.below.cell (p := ⟨(a.add ((k + 1) * 5)).block, (a.add ((k + 1) * 5)).off + 3, none⟩) hai).trans h3
            have q4 : ∀ p : BelowOf wr, p.world.cell? ⟨(a.add ((k + 1) * 5)).block, (a.add ((k + 1) * 5)).off + 4, none⟩ = some (.int .i64 v) := fun p => (p.below.cell (p := ⟨(a.add ((k + 1) * 5)).block, (a.add ((k + 1) * 5)).off + 4, none⟩) hai).trans h4
            have p0 : ∀ p : BelowOf wr, p.world.cell? (a.add (k * 5)) = some (.int .i64 r') := fun p => (p.below.cell hab).trans g0
            have p1 : ∀ p : BelowOf wr, p.world.cell? ⟨(a.add (k * 5)).block, (a.add (k * 5)).off + 1, none⟩ = some (.int .i64 c') := fun p => (p.below.cell (p := ⟨(a.add (k * 5)).block, (a.add (k * 5)).off + 1, none⟩) hab).trans g1
            have p2 : ∀ p : BelowOf wr, p.world.cell? ⟨(a.add (k * 5)).block, (a.add (k * 5)).off + 2, none⟩ = some (.int .i64 f') := fun p => (p.below.cell (p := ⟨(a.add (k * 5)).block, (a.add (k * 5)).off + 2, none⟩) hab).trans g2
            have p3 : ∀ p : BelowOf wr, p.world.cell? ⟨(a.add (k * 5)).block, (a.add (k * 5)).off + 3, none⟩ = some (.int .i64 s') := fun p => (p.below.cell (p := ⟨(a.add (k * 5)).block, (a.add (k * 5)).off + 3, none⟩) hab).trans g3
            have p4 : ∀ p : BelowOf wr, p.world.cell? ⟨(a.add (k * 5)).block, (a.add (k * 5)).off + 4, none⟩ = some (.int .i64 v') := fun p => (p.below.cell (p := ⟨(a.add (k * 5)).block, (a.add (k * 5)).off + 4, none⟩) hab).trans g4
            have ki : ((k : Int) < (l.length : Int)) := by omega

            go_wp2_with fail
            refine wp_region_quiet_below (by kernel_rfl) (by kernel_rfl) ?_
            repeat (go_big_quiet_step (first
              | (go_at_call 12; refine calls_below (MC.out _))
              | (go_at_call 13; refine calls_below (PB.out _))))
            refine wpQuiet_nil ?_
            rintro Wq ⟨⟨_, hq⟩, rfl⟩
            have HQ := hide (HB.out.trans (hq.mono HB.out.size))
            clear hq
            go_wp2_with fail
            go_ret
            exact ⟨by rw [E.out]; rfl, HQ.out⟩
          · have HM3 : Hid (mayFrom l (k + 1 + 1) = true) := hide (by rw [HM2]; simp [hlt2])
            clear HM2 hm hok PA
            rw [hlt2] at PB
            clear hlt2
            generalize l[k + 1] = tk at *
            obtain ⟨r, c, f, s, v⟩ := tk
            simp only at h0 h1 h2 h3 h4 MC
            unfold Ch.val at MC
            simp only at MC

            generalize l[k] = tk' at *
            obtain ⟨r', c', f', s', v'⟩ := tk'
            simp only at g0 g1 g2 g3 g4 PB
            unfold Ch.val at PB
            simp only at PB
            have NE : Nonempty (BelowOf wr) := ⟨⟨wr, Below.refl _ _⟩⟩
            have q0 : ∀ p : BelowOf wr, p.world.cell? (a.add ((k + 1) * 5)) = some (.int .i64 r) := fun p => (p.below.cell hai).trans h0
            have q1 : ∀ p : BelowOf wr, p.world.cell? ⟨(a.add ((k + 1) * 5)).block, (a.add ((k + 1) * 5)).off + 1, none⟩ = some (.int .i64 c) := fun p => (p.below.cell (p := ⟨(a.add ((k + 1) * 5)).block, (a.add ((k + 1) * 5)).off + 1, none⟩) hai).trans h1
            have q2 : ∀ p : BelowOf wr, p.world.cell? ⟨(a.add ((k + 1) * 5)).block, (a.add ((k + 1) * 5)).off + 2, none⟩ = some (.int .i64 f) := fun p => (p.below.cell (p := ⟨(a.add ((k + 1) * 5)).block, (a.add ((k + 1) * 5)).off + 2, none⟩) hai).trans h2
            have q3 : ∀ p : BelowOf wr, p.world.cell? ⟨(a.add ((k + 1) * 5)).block, (a.add ((k + 1) * 5)).off + 3, none⟩ = some (.int .i64 s) := fun p => (p.below.cell (p := ⟨(a.add ((k + 1) * 5)).block, (a.add ((k + 1) * 5)).off + 3, none⟩) hai).trans h3
            have q4 : ∀ p : BelowOf wr, p.world.cell? ⟨(a.add ((k + 1) * 5)).block, (a.add ((k + 1) * 5)).off + 4, none⟩ = some (.int .i64 v) := fun p => (p.below.cell (p := ⟨(a.add ((k + 1) * 5)).block, (a.add ((k + 1) * 5)).off + 4, none⟩) hai).trans h4
            have p0 : ∀ p : BelowOf wr, p.world.cell? (a.add (k * 5)) = some (.int .i64 r') := fun p => (p.below.cell hab).trans g0
            have p1 : ∀ p : BelowOf wr, p.world.cell? ⟨(a.add (k * 5)).block, (a.add (k * 5)).off + 1, none⟩ = some (.int .i64 c') := fun p => (p.below.cell (p := ⟨(a.add (k * 5)).block, (a.add (k * 5)).off + 1, none⟩) hab).trans g1
            have p2 : ∀ p : BelowOf wr, p.world.cell? ⟨(a.add (k * 5)).block, (a.add (k * 5)).off + 2, none⟩ = some (.int .i64 f') := fun p => (p.below.cell (p := ⟨(a.add (k * 5)).block, (a.add (k * 5)).off + 2, none⟩) hab).trans g2
            have p3 : ∀ p : BelowOf wr, p.world.cell? ⟨(a.add (k * 5)).block, (a.add (k * 5)).off + 3, none⟩ = some (.int .i64 s') := fun p => (p.below.cell (p := ⟨(a.add (k * 5)).block, (a.add (k * 5)).off + 3, none⟩) hab).trans g3
            have p4 : ∀ p : BelowOf wr, p.world.cell? ⟨(a.add (k * 5)).block, (a.add (k * 5)).off + 4, none⟩ = some (.int .i64 v') := fun p => (p.below.cell (p := ⟨(a.add (k * 5)).block, (a.add (k * 5)).off + 4, none⟩) hab).trans g4
            have ki : ((k : Int) < (l.length : Int)) := by omega

            go_wp2_with fail
            refine wp_region_quiet_below (by kernel_rfl) (by kernel_rfl) ?_
            repeat (go_big_quiet_step (first
              | (go_at_call 12; refine calls_below (MC.out _))
              | (go_at_call 13; refine calls_below (PB.out _))))
            refine wpQuiet_nil ?_
            rintro Wq ⟨⟨_, hq⟩, rfl⟩
            have HQ := hide (HB.out.trans (hq.mono HB.out.size))
            clear hq
            go_wp2_with fail
            go_roundw
            case rel => exact ⟨k + 1 + 1, by omega, by first | trivial | go_num, HM3, HQ⟩
            case measure => simp [intOf]; omega
    · obtain rfl : i = l.length := by omega
      have E : Hid (mayL l = true) := HM
      have ltI : ¬ (l.length : Int) < (l.length : Int) := by omega
      go_wp2_with fail
      go_ret
      exact ⟨by rw [E.out]; rfl, HB.out⟩
theorem May_b (A : Option Addr) (cap : Nat) (l : List Ch) (w : World) (h : CRow w A l) (hl : l.length ≤ 1000) :
    Calls Try.prog 11 #[.slice A l.length cap] w fun e w' => e = .returned (.bool (mayL l)) ∧ Below w.heap.size w w' := May_bigB A cap l w h (by omega)
end Go.Proofs.Ytnmaclpjddafnaa
