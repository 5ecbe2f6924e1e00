/- Whether a row of choices may be: the program's answer. -/
import Derived.Test.YtnmaclpjddafnaaRows
import Derived.Test.YtnmaclpjddafnaaSignA
import Derived.Test.YtnmaclpjddafnaaQuietBelow
namespace Go.Proofs.Ytnmaclpjddafnaa
open Go.RowKit
set_option linter.unusedVariables false
set_option linter.unusedSimpArgs false
theorem getD_at {l : List Ch} {i : Nat} (h : i < l.length) : l.getD i default = l[i] := by simp [List.getD, h]
theorem mayL_no {l : List Ch} {i : Nat} (h : i < l.length) (hf : mayFrom l (i + 1) = false) : mayL l = false := mayFrom_false hf (by omega)
theorem ChAt.bel {w w' : World} {a : Addr} {i : Nat} {t : Ch} (h : ChAt w a i t) (ha : a.block < w.heap.size) (hb : Below w.heap.size w w') : ChAt w' a i t := h.keep (fun p hp => hb.cell hp) ha
set_option maxRecDepth 100000 in
set_option maxHeartbeats 4000000 in
theorem May_big (A : Option Addr) (cap : Nat) (l : List Ch) (w : World) (h : CRow w A l) (hl : l.length ≤ 1000000) :
    Calls Try.prog 19 #[.slice A l.length cap] w fun e w' => e = .returned (.bool (mayL l)) ∧ Below w.heap.size w w' := by
  have H := hide h
  clear h
  go_enter Try.func19, Try.ntmps19
  go_wp2_with fail
  go_loopw [7] (fun vi wr => ∃ i : Nat, i ≤ l.length ∧ vi = .int .i64 i ∧ Hid (mayFrom l i = true) ∧ Hid (Below w.heap.size w wr)) (fun vi _ => l.length - (intOf vi).toNat)
  case atStart => exact ⟨0, Nat.zero_le _, rfl, hide rfl, hide (Below.refl _ _)⟩
  case round =>
    obtain ⟨i, hi, rfl, HM, HB⟩ := hrel
    by_cases hlt : i < l.length
    · obtain ⟨a, rfl, ha, hok, h0, h1, h2, h3, h4⟩ := (H.out.below HB.out).at_ hlt
      have ltI : (i : Int) < (l.length : Int) := by omega
      have HM2 := mayFrom_succ l i
      rw [HM.out, getD_at hlt, Bool.true_and] at HM2
      have MC := hide (may_a l[i])
      have PA : Hid (∀ k (hk : k < l.length) w', Calls Try.prog 17 #[(l[k]).val, (l[i]).val] w' fun e w'' => e = .returned (.int .i64 (ptC l[k] l[i])) ∧ Below w'.heap.size w' w'') := hide fun k hk w' => point_a _ _ w'
      have hb1 := (Below.refl wr.heap.size wr).alloc (Nat.le_refl _) (.cells #[.int .i64 l[i].r, .int .i64 l[i].c, .int .i64 l[i].f, .int .i64 l[i].s, .int .i64 l[i].v] 24)
      have bk := Blk.new wr 24 #[.int .i64 l[i].r, .int .i64 l[i].c, .int .i64 l[i].f, .int .i64 l[i].s, .int .i64 l[i].v]
      have hbs : wr.heap.size < (wr.alloc (.cells #[.int .i64 l[i].r, .int .i64 l[i].c, .int .i64 l[i].f, .int .i64 l[i].s, .int .i64 l[i].v] 24)).heap.size := by simp
      have HB1 := hide (HB.out.trans (hb1.mono HB.out.size))
      have R1 := hide ((H.out.below HB.out).below hb1)
      rcases hm : mayC l[i] with _ | _
      · have E := hide (mayL_no hlt (by rw [HM2, hm]; rfl))
        rw [hm] at MC
        clear HM2 hm hok
        generalize l[i] = tk at *
        obtain ⟨r, c, f, s, v⟩ := tk
        simp only at h0 h1 h2 h3 h4 MC PA bk hb1 hbs HB1 R1
        unfold Ch.val at MC
        simp only at MC
        go_wp2_with fail
        generalize wr.alloc (.cells #[.int .i64 r, .int .i64 c, .int .i64 f, .int .i64 s, .int .i64 v] 24) = W1 at *
        have NE : Nonempty (BelowOf W1) := ⟨⟨W1, Below.refl _ _⟩⟩
        have q0 : ∀ p : BelowOf W1, p.world.cell? ⟨wr.heap.size, 0, none⟩ = some (.int .i64 r) := fun p => p.cell hbs (bk.cell 0)
        have q1 : ∀ p : BelowOf W1, p.world.cell? ⟨wr.heap.size, 1, none⟩ = some (.int .i64 c) := fun p => p.cell hbs (bk.cell 1)
        have q2 : ∀ p : BelowOf W1, p.world.cell? ⟨wr.heap.size, 2, none⟩ = some (.int .i64 f) := fun p => p.cell hbs (bk.cell 2)
        have q3 : ∀ p : BelowOf W1, p.world.cell? ⟨wr.heap.size, 3, none⟩ = some (.int .i64 s) := fun p => p.cell hbs (bk.cell 3)
        have q4 : ∀ p : BelowOf W1, p.world.cell? ⟨wr.heap.size, 4, none⟩ = some (.int .i64 v) := fun p => p.cell hbs (bk.cell 4)

        refine wp_region_quiet_below (by kernel_rfl) (by kernel_rfl) ?_
        repeat (go_big_quiet_step (first
          | (go_at_call 20; refine calls_below (MC.out _))))
        refine wpQuiet_nil ?_
        rintro Wq ⟨⟨_, hq⟩, rfl⟩
        have HQ := hide (HB1.out.trans (hq.mono HB1.out.size))
        clear hq
        go_wp2_with fail

        go_ret
        exact ⟨by rw [E.out]; rfl, HQ.out⟩
      · rw [hm] at MC HM2
        rcases i with _ | k
        · have HM3 : Hid (mayFrom l (0 + 1) = true) := hide (by rw [HM2]; rfl)
          clear HM2 hm hok
          generalize l[0] = tk at *
          obtain ⟨r, c, f, s, v⟩ := tk
          simp only at h0 h1 h2 h3 h4 MC PA bk hb1 hbs HB1 R1
          unfold Ch.val at MC
          simp only at MC
          rw [show a.add (0 * 5) = a by simp [Addr.add]] at h0 h1 h2 h3 h4
          go_wp2_with fail
          generalize wr.alloc (.cells #[.int .i64 r, .int .i64 c, .int .i64 f, .int .i64 s, .int .i64 v] 24) = W1 at *
          have NE : Nonempty (BelowOf W1) := ⟨⟨W1, Below.refl _ _⟩⟩
          have q0 : ∀ p : BelowOf W1, p.world.cell? ⟨wr.heap.size, 0, none⟩ = some (.int .i64 r) := fun p => p.cell hbs (bk.cell 0)
          have q1 : ∀ p : BelowOf W1, p.world.cell? ⟨wr.heap.size, 1, none⟩ = some (.int .i64 c) := fun p => p.cell hbs (bk.cell 1)
          have q2 : ∀ p : BelowOf W1, p.world.cell? ⟨wr.heap.size, 2, none⟩ = some (.int .i64 f) := fun p => p.cell hbs (bk.cell 2)
          have q3 : ∀ p : BelowOf W1, p.world.cell? ⟨wr.heap.size, 3, none⟩ = some (.int .i64 s) := fun p => p.cell hbs (bk.cell 3)
          have q4 : ∀ p : BelowOf W1, p.world.cell? ⟨wr.heap.size, 4, none⟩ = some (.int .i64 v) := fun p => p.cell hbs (bk.cell 4)

          refine wp_region_quiet_below (by kernel_rfl) (by kernel_rfl) ?_
          repeat (go_big_quiet_step (first
            | (go_at_call 20; refine calls_below (MC.out _))))
          refine wpQuiet_nil ?_
          rintro Wq ⟨⟨_, hq⟩, rfl⟩
          have HQ := hide (HB1.out.trans (hq.mono HB1.out.size))
          clear hq
          go_wp2_with fail

          go_roundw
          case rel => exact ⟨0 + 1, by omega, by first | trivial | go_num, HM3, HQ⟩
          case measure => simp [intOf]; omega
        · have hk : k < l.length := by omega
          obtain ⟨a', ea, ha', _, g0, g1, g2, g3, g4⟩ := R1.out.at_ hk
          obtain rfl : a = a' := by simpa using ea
          have PB := hide (PA.out k hk)
          rw [getD_at (show k + 1 - 1 < l.length by omega)] at HM2
          have hab : (a.add (k * 5)).block < (wr.alloc (.cells #[.int .i64 l[k + 1].r, .int .i64 l[k + 1].c, .int .i64 l[k + 1].f, .int .i64 l[k + 1].s, .int .i64 l[k + 1].v] 24)).heap.size := by rw [block_of_add]; exact ha'
          rcases hlt2 : ltP (l[k]'hk) l[k + 1] with _ | _
          · have E : Hid (mayL l = false) := hide (mayL_no hlt (by rw [HM2]; simp [hlt2]))
            have hge : ¬ ptC (l[k]'hk) l[k + 1] < 0 := by rw [ptC_neg, hlt2]; decide
            clear HM2 hm hok hlt2 PA
            generalize ptC (l[k]'hk) l[k + 1] = z at *
            generalize l[k + 1] = tk at *
            obtain ⟨r, c, f, s, v⟩ := tk
            simp only at h0 h1 h2 h3 h4 MC bk hb1 hbs HB1 R1
            unfold Ch.val at MC
            simp only at MC

            generalize l[k] = tk' at *
            obtain ⟨r', c', f', s', v'⟩ := tk'
            simp only at g0 g1 g2 g3 g4 PB
            unfold Ch.val at PB
            simp only at PB
            go_wp2_with fail
            generalize wr.alloc (.cells #[.int .i64 r, .int .i64 c, .int .i64 f, .int .i64 s, .int .i64 v] 24) = W1 at *
            have NE : Nonempty (BelowOf W1) := ⟨⟨W1, Below.refl _ _⟩⟩
            have q0 : ∀ p : BelowOf W1, p.world.cell? ⟨wr.heap.size, 0, none⟩ = some (.int .i64 r) := fun p => p.cell hbs (bk.cell 0)
            have q1 : ∀ p : BelowOf W1, p.world.cell? ⟨wr.heap.size, 1, none⟩ = some (.int .i64 c) := fun p => p.cell hbs (bk.cell 1)
            have q2 : ∀ p : BelowOf W1, p.world.cell? ⟨wr.heap.size, 2, none⟩ = some (.int .i64 f) := fun p => p.cell hbs (bk.cell 2)
            have q3 : ∀ p : BelowOf W1, p.world.cell? ⟨wr.heap.size, 3, none⟩ = some (.int .i64 s) := fun p => p.cell hbs (bk.cell 3)
            have q4 : ∀ p : BelowOf W1, p.world.cell? ⟨wr.heap.size, 4, none⟩ = some (.int .i64 v) := fun p => p.cell hbs (bk.cell 4)

            have p0 : ∀ p : BelowOf W1, p.world.cell? (a.add (k * 5)) = some (.int .i64 r') := fun p => (p.below.cell hab).trans g0
            have p1 : ∀ p : BelowOf W1, p.world.cell? ⟨(a.add (k * 5)).block, (a.add (k * 5)).off + 1, none⟩ = some (.int .i64 c') := fun p => (p.below.cell (p := ⟨(a.add (k * 5)).block, (a.add (k * 5)).off + 1, none⟩) hab).trans g1
            have p2 : ∀ p : BelowOf W1, p.world.cell? ⟨(a.add (k * 5)).block, (a.add (k * 5)).off + 2, none⟩ = some (.int .i64 f') := fun p => (p.below.cell (p := ⟨(a.add (k * 5)).block, (a.add (k * 5)).off + 2, none⟩) hab).trans g2
            have p3 : ∀ p : BelowOf W1, p.world.cell? ⟨(a.add (k * 5)).block, (a.add (k * 5)).off + 3, none⟩ = some (.int .i64 s') := fun p => (p.below.cell (p := ⟨(a.add (k * 5)).block, (a.add (k * 5)).off + 3, none⟩) hab).trans g3
            have p4 : ∀ p : BelowOf W1, p.world.cell? ⟨(a.add (k * 5)).block, (a.add (k * 5)).off + 4, none⟩ = some (.int .i64 v') := fun p => (p.below.cell (p := ⟨(a.add (k * 5)).block, (a.add (k * 5)).off + 4, none⟩) hab).trans g4
            have ki : ((k : Int) < (l.length : Int)) := by omega
            refine wp_region_quiet_below (by kernel_rfl) (by kernel_rfl) ?_
            repeat (go_big_quiet_step (first
              | (go_at_call 20; refine calls_below (MC.out _))
              | (go_at_call 17; refine calls_below (PB.out _))))
            refine wpQuiet_nil ?_
            rintro Wq ⟨⟨_, hq⟩, rfl⟩
            have HQ := hide (HB1.out.trans (hq.mono HB1.out.size))
            clear hq
            go_wp2_with fail

            go_ret
            exact ⟨by rw [E.out]; rfl, HQ.out⟩
          · have HM3 : Hid (mayFrom l (k + 1 + 1) = true) := hide (by rw [HM2]; simp [hlt2])
            have hge : ptC (l[k]'hk) l[k + 1] < 0 := by rw [ptC_neg, hlt2]
            clear HM2 hm hok hlt2 PA
            generalize ptC (l[k]'hk) l[k + 1] = z at *
            generalize l[k + 1] = tk at *
            obtain ⟨r, c, f, s, v⟩ := tk
            simp only at h0 h1 h2 h3 h4 MC bk hb1 hbs HB1 R1
            unfold Ch.val at MC
            simp only at MC

            generalize l[k] = tk' at *
            obtain ⟨r', c', f', s', v'⟩ := tk'
            simp only at g0 g1 g2 g3 g4 PB
            unfold Ch.val at PB
            simp only at PB
            go_wp2_with fail
            generalize wr.alloc (.cells #[.int .i64 r, .int .i64 c, .int .i64 f, .int .i64 s, .int .i64 v] 24) = W1 at *
            have NE : Nonempty (BelowOf W1) := ⟨⟨W1, Below.refl _ _⟩⟩
            have q0 : ∀ p : BelowOf W1, p.world.cell? ⟨wr.heap.size, 0, none⟩ = some (.int .i64 r) := fun p => p.cell hbs (bk.cell 0)
            have q1 : ∀ p : BelowOf W1, p.world.cell? ⟨wr.heap.size, 1, none⟩ = some (.int .i64 c) := fun p => p.cell hbs (bk.cell 1)
            have q2 : ∀ p : BelowOf W1, p.world.cell? ⟨wr.heap.size, 2, none⟩ = some (.int .i64 f) := fun p => p.cell hbs (bk.cell 2)
            have q3 : ∀ p : BelowOf W1, p.world.cell? ⟨wr.heap.size, 3, none⟩ = some (.int .i64 s) := fun p => p.cell hbs (bk.cell 3)
            have q4 : ∀ p : BelowOf W1, p.world.cell? ⟨wr.heap.size, 4, none⟩ = some (.int .i64 v) := fun p => p.cell hbs (bk.cell 4)

            have p0 : ∀ p : BelowOf W1, p.world.cell? (a.add (k * 5)) = some (.int .i64 r') := fun p => (p.below.cell hab).trans g0
            have p1 : ∀ p : BelowOf W1, p.world.cell? ⟨(a.add (k * 5)).block, (a.add (k * 5)).off + 1, none⟩ = some (.int .i64 c') := fun p => (p.below.cell (p := ⟨(a.add (k * 5)).block, (a.add (k * 5)).off + 1, none⟩) hab).trans g1
            have p2 : ∀ p : BelowOf W1, p.world.cell? ⟨(a.add (k * 5)).block, (a.add (k * 5)).off + 2, none⟩ = some (.int .i64 f') := fun p => (p.below.cell (p := ⟨(a.add (k * 5)).block, (a.add (k * 5)).off + 2, none⟩) hab).trans g2
            have p3 : ∀ p : BelowOf W1, p.world.cell? ⟨(a.add (k * 5)).block, (a.add (k * 5)).off + 3, none⟩ = some (.int .i64 s') := fun p => (p.below.cell (p := ⟨(a.add (k * 5)).block, (a.add (k * 5)).off + 3, none⟩) hab).trans g3
            have p4 : ∀ p : BelowOf W1, p.world.cell? ⟨(a.add (k * 5)).block, (a.add (k * 5)).off + 4, none⟩ = some (.int .i64 v') := fun p => (p.below.cell (p := ⟨(a.add (k * 5)).block, (a.add (k * 5)).off + 4, none⟩) hab).trans g4
            have ki : ((k : Int) < (l.length : Int)) := by omega
            refine wp_region_quiet_below (by kernel_rfl) (by kernel_rfl) ?_
            repeat (go_big_quiet_step (first
              | (go_at_call 20; refine calls_below (MC.out _))
              | (go_at_call 17; refine calls_below (PB.out _))))
            refine wpQuiet_nil ?_
            rintro Wq ⟨⟨_, hq⟩, rfl⟩
            have HQ := hide (HB1.out.trans (hq.mono HB1.out.size))
            clear hq
            go_wp2_with fail

            go_roundw
            case rel => exact ⟨k + 1 + 1, by omega, by first | trivial | go_num, HM3, HQ⟩
            case measure => simp [intOf]; omega
    · obtain rfl : i = l.length := by omega
      have E : Hid (mayL l = true) := HM
      have ltI : ¬ (l.length : Int) < (l.length : Int) := by omega
      go_wp2_with fail
      go_ret
      exact ⟨by rw [E.out]; rfl, HB.out⟩
theorem May_a (A : Option Addr) (cap : Nat) (l : List Ch) (w : World) (h : CRow w A l) (hl : l.length ≤ 1000) :
    Calls Try.prog 19 #[.slice A l.length cap] w fun e w' => e = .returned (.bool (mayL l)) ∧ Below w.heap.size w w' := May_big A cap l w h (by omega)
end Go.Proofs.Ytnmaclpjddafnaa
