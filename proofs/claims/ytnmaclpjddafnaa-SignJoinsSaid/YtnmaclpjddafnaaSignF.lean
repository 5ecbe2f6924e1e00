/- Where a point is, or would be: the search. -/
import Derived.Test.YtnmaclpjddafnaaRows
import Derived.Test.YtnmaclpjddafnaaSignE
namespace Go.Proofs.Ytnmaclpjddafnaa
open Go.RowKit
set_option linter.unusedVariables false
set_option linter.unusedSimpArgs false
def posL (l : List Ch) (c : Ch) : Nat := match l.findIdx? (fun x => !ltP x c) with | some i => i | none => l.length
def fndL (l : List Ch) (c : Ch) : Bool := match l[posL l c]? with | some x => eqP x c | none => false
theorem pos_eq {l : List Ch} {c : Ch} {i : Nat} (hi : i ≤ l.length) (h1 : ∀ k (hk : k < i), ltP (l[k]'(by omega)) c = true) (h2 : ∀ k (hk : i ≤ k) (hl : k < l.length), ltP l[k] c = false) : posL l c = i := by
  unfold posL
  rcases Nat.lt_or_ge i l.length with h | h
  · have : l.findIdx? (fun x => !ltP x c) = some i := by
      rw [List.findIdx?_eq_some_iff_getElem]
      exact ⟨h, by rw [h2 i (Nat.le_refl _) h]; rfl, fun j hj => by rw [h1 j hj]; decide⟩
    rw [this]
  · have : l.findIdx? (fun x => !ltP x c) = none := by
      rw [List.findIdx?_eq_none_iff]
      intro x hx
      obtain ⟨k, hk, rfl⟩ := List.getElem_of_mem hx
      rw [h1 k (by omega)]
      rfl
    rw [this]
    simp only
    omega
set_option maxRecDepth 100000 in
set_option maxHeartbeats 4000000 in
theorem search_a (A : Option Addr) (cap : Nat) (l : List Ch) (x : Ch) (w : World) (h : CRow w A l) (hl : l.length ≤ 1000) (hm : mayL l = true) :
    Calls Try.prog 29 #[.slice A l.length cap, x.val, .func (.func 17) #[] #[]] w fun e w' => e = .returned (.tuple #[.int .i64 (posL l x), .bool (fndL l x)]) ∧ Below w.heap.size w w' := by
  have M := hide hm
  clear hm
  have PA := hide (fun (y : Ch) => point_a y x)
  have PN := hide (fun (y : Ch) => ptC_neg y x)
  have PZ := hide (fun (y : Ch) => ptC_zero y x)
  have PE := hide (fun (i : Nat) (hi : i ≤ l.length) (h1 : ∀ k (hk : k < i), ltP (l[k]'(by omega)) x = true) (h2 : ∀ k (hk : i ≤ k) (hl : k < l.length), ltP l[k] x = false) => pos_eq hi h1 h2)
  obtain ⟨xr, xc, xf, xs, xv⟩ := x
  unfold Ch.val at PA ⊢
  simp only at PA ⊢
  have hb1 := (Below.refl w.heap.size w).alloc (Nat.le_refl _) (.cells #[.int .i64 xr, .int .i64 xc, .int .i64 xf, .int .i64 xs, .int .i64 xv] 24)
  have bk := Blk.new w 24 #[.int .i64 xr, .int .i64 xc, .int .i64 xf, .int .i64 xs, .int .i64 xv]
  have hs1 : w.heap.size < (w.alloc (.cells #[.int .i64 xr, .int .i64 xc, .int .i64 xf, .int .i64 xs, .int .i64 xv] 24)).heap.size := by simp
  have H := hide (h.below hb1)
  clear h
  go_enter Try.func29, Try.ntmps29
  go_wp2_with fail
  generalize w.alloc (.cells #[.int .i64 xr, .int .i64 xc, .int .i64 xf, .int .i64 xs, .int .i64 xv] 24) = W1 at *
  have HB1 := hide hb1
  have BK := hide bk
  clear hb1 bk
  go_loopw [9, 10] (fun vi vj wr => ∃ (i j : Nat), i ≤ j ∧ j ≤ l.length ∧ vi = .int .i64 i ∧ vj = .int .i64 j ∧ Hid ((∀ k (hk : k < i) (hl : k < l.length), ltP l[k] ⟨xr, xc, xf, xs, xv⟩ = true) ∧ (∀ k (hk : j ≤ k) (hl : k < l.length), ltP l[k] ⟨xr, xc, xf, xs, xv⟩ = false)) ∧ Hid (Below W1.heap.size W1 wr)) (fun vi vj _ => (intOf vj - intOf vi).toNat)
  case atStart => exact ⟨0, l.length, Nat.zero_le _, Nat.le_refl _, rfl, rfl, hide ⟨fun k hk => absurd hk (Nat.not_lt_zero k), fun k hk hl => absurd hk (by omega)⟩, hide (Below.refl _ _)⟩
  case round =>
    obtain ⟨i, j, hij, hjl, rfl, rfl, HN, HB⟩ := hrel
    by_cases hlt : i < j
    · have ltI : (i : Int) < (j : Int) := by omega
      obtain ⟨m, hm1, hm2, em⟩ : ∃ m : Nat, i ≤ m ∧ m < j ∧ ((i : Int) + (j : Int)) / 2 = (m : Int) := ⟨(i + j) / 2, by omega, by omega, by omega⟩
      have hml : m < l.length := by omega
      have mI : (m : Int) < (l.length : Int) := by omega
      obtain ⟨a, rfl, ha, hok, h0, h1, h2, h3, h4⟩ := (H.out.below HB.out).at_ hml
      have PB := hide (PA.out l[m])
      have q0 : ∀ p : BelowOf wr, p.world.cell? ⟨w.heap.size, 0, none⟩ = some (.int .i64 xr) := fun p => p.cell (Nat.lt_of_lt_of_le hs1 HB.out.size) ((HB.out.cell (p := ⟨w.heap.size, 0, none⟩) hs1).trans (BK.out.cell 0))
      have q1 : ∀ p : BelowOf wr, p.world.cell? ⟨w.heap.size, 1, none⟩ = some (.int .i64 xc) := fun p => p.cell (Nat.lt_of_lt_of_le hs1 HB.out.size) ((HB.out.cell (p := ⟨w.heap.size, 1, none⟩) hs1).trans (BK.out.cell 1))
      have q2 : ∀ p : BelowOf wr, p.world.cell? ⟨w.heap.size, 2, none⟩ = some (.int .i64 xf) := fun p => p.cell (Nat.lt_of_lt_of_le hs1 HB.out.size) ((HB.out.cell (p := ⟨w.heap.size, 2, none⟩) hs1).trans (BK.out.cell 2))
      have q3 : ∀ p : BelowOf wr, p.world.cell? ⟨w.heap.size, 3, none⟩ = some (.int .i64 xs) := fun p => p.cell (Nat.lt_of_lt_of_le hs1 HB.out.size) ((HB.out.cell (p := ⟨w.heap.size, 3, none⟩) hs1).trans (BK.out.cell 3))
      have q4 : ∀ p : BelowOf wr, p.world.cell? ⟨w.heap.size, 4, none⟩ = some (.int .i64 xv) := fun p => p.cell (Nat.lt_of_lt_of_le hs1 HB.out.size) ((HB.out.cell (p := ⟨w.heap.size, 4, none⟩) hs1).trans (BK.out.cell 4))
      have hab : (a.add (m * 5)).block < wr.heap.size := by rw [block_of_add]; exact ha
      rcases hc : ltP l[m] ⟨xr, xc, xf, xs, xv⟩ with _ | _
      · have hge : ¬ ptC l[m] ⟨xr, xc, xf, xs, xv⟩ < 0 := by rw [PN.out, hc]; decide
        have HN2 : Hid ((∀ k (hk : k < i) (hl : k < l.length), ltP l[k] ⟨xr, xc, xf, xs, xv⟩ = true) ∧ (∀ k (hk : m ≤ k) (hl : k < l.length), ltP l[k] ⟨xr, xc, xf, xs, xv⟩ = false)) := hide ⟨HN.out.1, fun k hk hl => by
          rcases Nat.eq_or_lt_of_le hk with h9 | h9
          · obtain rfl : m = k := h9
            exact hc
          · rcases h8 : ltP l[k] ⟨xr, xc, xf, xs, xv⟩ with _ | _
            · rfl
            · rw [ltP_trans (mayL_lt M.out k m h9 hl) h8] at hc; cases hc⟩
        clear hc hok
        generalize ptC l[m] ⟨xr, xc, xf, xs, xv⟩ = z at *
        generalize l[m] = tk at *
        obtain ⟨r, c, f, s, v⟩ := tk
        simp only at h0 h1 h2 h3 h4 PB
        have NE : Nonempty (BelowOf wr) := ⟨⟨wr, Below.refl _ _⟩⟩
        have p0 : ∀ p : BelowOf wr, p.world.cell? (a.add (m * 5)) = some (.int .i64 r) := fun p => (p.below.cell hab).trans h0
        have p1 : ∀ p : BelowOf wr, p.world.cell? ⟨(a.add (m * 5)).block, (a.add (m * 5)).off + 1, none⟩ = some (.int .i64 c) := fun p => (p.below.cell (p := ⟨(a.add (m * 5)).block, (a.add (m * 5)).off + 1, none⟩) hab).trans h1
        have p2 : ∀ p : BelowOf wr, p.world.cell? ⟨(a.add (m * 5)).block, (a.add (m * 5)).off + 2, none⟩ = some (.int .i64 f) := fun p => (p.below.cell (p := ⟨(a.add (m * 5)).block, (a.add (m * 5)).off + 2, none⟩) hab).trans h2
        have p3 : ∀ p : BelowOf wr, p.world.cell? ⟨(a.add (m * 5)).block, (a.add (m * 5)).off + 3, none⟩ = some (.int .i64 s) := fun p => (p.below.cell (p := ⟨(a.add (m * 5)).block, (a.add (m * 5)).off + 3, none⟩) hab).trans h3
        have p4 : ∀ p : BelowOf wr, p.world.cell? ⟨(a.add (m * 5)).block, (a.add (m * 5)).off + 4, none⟩ = some (.int .i64 v) := fun p => (p.below.cell (p := ⟨(a.add (m * 5)).block, (a.add (m * 5)).off + 4, none⟩) hab).trans h4
        go_wp2_with fail
        try rw [em]
        refine wp_region_quiet_below (by kernel_rfl) (by kernel_rfl) ?_
        repeat (go_big_quiet_step (first
          | (go_at_call 17; refine calls_below (PB.out _))))
        refine wpQuiet_nil ?_
        rintro Wq ⟨⟨_, hq⟩, rfl⟩
        have HQ := hide (HB.out.trans (hq.mono HB.out.size))
        clear hq
        go_wp2_with fail
        go_roundw
        case rel => exact ⟨i, m, hm1, by omega, rfl, rfl, HN2, HQ⟩
        case measure => simp [intOf]; omega
      · have hge : ptC l[m] ⟨xr, xc, xf, xs, xv⟩ < 0 := (PN.out _).2 hc
        have HN2 : Hid ((∀ k (hk : k < m + 1) (hl : k < l.length), ltP l[k] ⟨xr, xc, xf, xs, xv⟩ = true) ∧ (∀ k (hk : j ≤ k) (hl : k < l.length), ltP l[k] ⟨xr, xc, xf, xs, xv⟩ = false)) := hide ⟨fun k hk hl => by
          rcases Nat.lt_or_ge k m with h9 | h9
          · exact ltP_trans (mayL_lt M.out m k h9 hml) hc
          · obtain rfl : k = m := by omega
            exact hc, HN.out.2⟩
        clear hc hok
        generalize ptC l[m] ⟨xr, xc, xf, xs, xv⟩ = z at *
        generalize l[m] = tk at *
        obtain ⟨r, c, f, s, v⟩ := tk
        simp only at h0 h1 h2 h3 h4 PB
        have NE : Nonempty (BelowOf wr) := ⟨⟨wr, Below.refl _ _⟩⟩
        have p0 : ∀ p : BelowOf wr, p.world.cell? (a.add (m * 5)) = some (.int .i64 r) := fun p => (p.below.cell hab).trans h0
        have p1 : ∀ p : BelowOf wr, p.world.cell? ⟨(a.add (m * 5)).block, (a.add (m * 5)).off + 1, none⟩ = some (.int .i64 c) := fun p => (p.below.cell (p := ⟨(a.add (m * 5)).block, (a.add (m * 5)).off + 1, none⟩) hab).trans h1
        have p2 : ∀ p : BelowOf wr, p.world.cell? ⟨(a.add (m * 5)).block, (a.add (m * 5)).off + 2, none⟩ = some (.int .i64 f) := fun p => (p.below.cell (p := ⟨(a.add (m * 5)).block, (a.add (m * 5)).off + 2, none⟩) hab).trans h2
        have p3 : ∀ p : BelowOf wr, p.world.cell? ⟨(a.add (m * 5)).block, (a.add (m * 5)).off + 3, none⟩ = some (.int .i64 s) := fun p => (p.below.cell (p := ⟨(a.add (m * 5)).block, (a.add (m * 5)).off + 3, none⟩) hab).trans h3
        have p4 : ∀ p : BelowOf wr, p.world.cell? ⟨(a.add (m * 5)).block, (a.add (m * 5)).off + 4, none⟩ = some (.int .i64 v) := fun p => (p.below.cell (p := ⟨(a.add (m * 5)).block, (a.add (m * 5)).off + 4, none⟩) hab).trans h4
        go_wp2_with fail
        try rw [em]
        refine wp_region_quiet_below (by kernel_rfl) (by kernel_rfl) ?_
        repeat (go_big_quiet_step (first
          | (go_at_call 17; refine calls_below (PB.out _))))
        refine wpQuiet_nil ?_
        rintro Wq ⟨⟨_, hq⟩, rfl⟩
        have HQ := hide (HB.out.trans (hq.mono HB.out.size))
        clear hq
        go_wp2_with fail
        go_roundw
        case rel => exact ⟨m + 1, j, by omega, hjl, by first | trivial | go_num, rfl, HN2, HQ⟩
        case measure => simp [intOf]; omega
    · obtain rfl : i = j := by omega
      have ltI : ¬ (i : Int) < (i : Int) := by omega
      have PO := hide (PE.out i hjl (fun k hk => HN.out.1 k hk (by omega)) HN.out.2)
      have q0 : ∀ p : BelowOf wr, p.world.cell? ⟨w.heap.size, 0, none⟩ = some (.int .i64 xr) := fun p => p.cell (Nat.lt_of_lt_of_le hs1 HB.out.size) ((HB.out.cell (p := ⟨w.heap.size, 0, none⟩) hs1).trans (BK.out.cell 0))
      have q1 : ∀ p : BelowOf wr, p.world.cell? ⟨w.heap.size, 1, none⟩ = some (.int .i64 xc) := fun p => p.cell (Nat.lt_of_lt_of_le hs1 HB.out.size) ((HB.out.cell (p := ⟨w.heap.size, 1, none⟩) hs1).trans (BK.out.cell 1))
      have q2 : ∀ p : BelowOf wr, p.world.cell? ⟨w.heap.size, 2, none⟩ = some (.int .i64 xf) := fun p => p.cell (Nat.lt_of_lt_of_le hs1 HB.out.size) ((HB.out.cell (p := ⟨w.heap.size, 2, none⟩) hs1).trans (BK.out.cell 2))
      have q3 : ∀ p : BelowOf wr, p.world.cell? ⟨w.heap.size, 3, none⟩ = some (.int .i64 xs) := fun p => p.cell (Nat.lt_of_lt_of_le hs1 HB.out.size) ((HB.out.cell (p := ⟨w.heap.size, 3, none⟩) hs1).trans (BK.out.cell 3))
      have q4 : ∀ p : BelowOf wr, p.world.cell? ⟨w.heap.size, 4, none⟩ = some (.int .i64 xv) := fun p => p.cell (Nat.lt_of_lt_of_le hs1 HB.out.size) ((HB.out.cell (p := ⟨w.heap.size, 4, none⟩) hs1).trans (BK.out.cell 4))
      have NE : Nonempty (BelowOf wr) := ⟨⟨wr, Below.refl _ _⟩⟩
      by_cases hil : i < l.length
      · have mI : (i : Int) < (l.length : Int) := by omega
        obtain ⟨a, rfl, ha, hok, h0, h1, h2, h3, h4⟩ := (H.out.below HB.out).at_ hil
        have PB := hide (PA.out l[i])
        have hab : (a.add (i * 5)).block < wr.heap.size := by rw [block_of_add]; exact ha
        have FN : Hid (fndL l ⟨xr, xc, xf, xs, xv⟩ = eqP l[i] ⟨xr, xc, xf, xs, xv⟩) := hide (by unfold fndL; rw [PO.out, List.getElem?_eq_getElem hil])
        rcases hc : eqP l[i] ⟨xr, xc, xf, xs, xv⟩ with _ | _
        · have hz : ¬ ptC l[i] ⟨xr, xc, xf, xs, xv⟩ = 0 := by rw [PZ.out, hc]; decide
          rw [hc] at FN
          clear hc hok
          generalize ptC l[i] ⟨xr, xc, xf, xs, xv⟩ = z at *
          generalize l[i] = tk at *
          obtain ⟨r, c, f, s, v⟩ := tk
          simp only at h0 h1 h2 h3 h4 PB
          have p0 : ∀ p : BelowOf wr, p.world.cell? (a.add (i * 5)) = some (.int .i64 r) := fun p => (p.below.cell hab).trans h0
          have p1 : ∀ p : BelowOf wr, p.world.cell? ⟨(a.add (i * 5)).block, (a.add (i * 5)).off + 1, none⟩ = some (.int .i64 c) := fun p => (p.below.cell (p := ⟨(a.add (i * 5)).block, (a.add (i * 5)).off + 1, none⟩) hab).trans h1
          have p2 : ∀ p : BelowOf wr, p.world.cell? ⟨(a.add (i * 5)).block, (a.add (i * 5)).off + 2, none⟩ = some (.int .i64 f) := fun p => (p.below.cell (p := ⟨(a.add (i * 5)).block, (a.add (i * 5)).off + 2, none⟩) hab).trans h2
          have p3 : ∀ p : BelowOf wr, p.world.cell? ⟨(a.add (i * 5)).block, (a.add (i * 5)).off + 3, none⟩ = some (.int .i64 s) := fun p => (p.below.cell (p := ⟨(a.add (i * 5)).block, (a.add (i * 5)).off + 3, none⟩) hab).trans h3
          have p4 : ∀ p : BelowOf wr, p.world.cell? ⟨(a.add (i * 5)).block, (a.add (i * 5)).off + 4, none⟩ = some (.int .i64 v) := fun p => (p.below.cell (p := ⟨(a.add (i * 5)).block, (a.add (i * 5)).off + 4, none⟩) hab).trans h4
          go_wp2_with fail
          refine wp_region_quiet_below (by kernel_rfl) (by kernel_rfl) ?_
          repeat (go_big_quiet_step (first
            | (go_at_call 17; refine calls_below (PB.out _))))
          refine wpQuiet_nil ?_
          rintro Wq ⟨⟨_, hq⟩, rfl⟩
          have HQ := hide (HB1.out.trans ((HB.out.trans (hq.mono HB.out.size)).mono HB1.out.size))
          clear hq
          go_wp2_with fail
          go_ret2
          exact ⟨by rw [PO.out, FN.out.trans (beq_false_of_ne hz).symm]; rfl, HQ.out⟩
        · have hz : ptC l[i] ⟨xr, xc, xf, xs, xv⟩ = 0 := (PZ.out _).2 hc
          rw [hc] at FN
          clear hc hok
          generalize ptC l[i] ⟨xr, xc, xf, xs, xv⟩ = z at *
          generalize l[i] = tk at *
          obtain ⟨r, c, f, s, v⟩ := tk
          simp only at h0 h1 h2 h3 h4 PB
          have p0 : ∀ p : BelowOf wr, p.world.cell? (a.add (i * 5)) = some (.int .i64 r) := fun p => (p.below.cell hab).trans h0
          have p1 : ∀ p : BelowOf wr, p.world.cell? ⟨(a.add (i * 5)).block, (a.add (i * 5)).off + 1, none⟩ = some (.int .i64 c) := fun p => (p.below.cell (p := ⟨(a.add (i * 5)).block, (a.add (i * 5)).off + 1, none⟩) hab).trans h1
          have p2 : ∀ p : BelowOf wr, p.world.cell? ⟨(a.add (i * 5)).block, (a.add (i * 5)).off + 2, none⟩ = some (.int .i64 f) := fun p => (p.below.cell (p := ⟨(a.add (i * 5)).block, (a.add (i * 5)).off + 2, none⟩) hab).trans h2
          have p3 : ∀ p : BelowOf wr, p.world.cell? ⟨(a.add (i * 5)).block, (a.add (i * 5)).off + 3, none⟩ = some (.int .i64 s) := fun p => (p.below.cell (p := ⟨(a.add (i * 5)).block, (a.add (i * 5)).off + 3, none⟩) hab).trans h3
          have p4 : ∀ p : BelowOf wr, p.world.cell? ⟨(a.add (i * 5)).block, (a.add (i * 5)).off + 4, none⟩ = some (.int .i64 v) := fun p => (p.below.cell (p := ⟨(a.add (i * 5)).block, (a.add (i * 5)).off + 4, none⟩) hab).trans h4
          go_wp2_with fail
          refine wp_region_quiet_below (by kernel_rfl) (by kernel_rfl) ?_
          repeat (go_big_quiet_step (first
            | (go_at_call 17; refine calls_below (PB.out _))))
          refine wpQuiet_nil ?_
          rintro Wq ⟨⟨_, hq⟩, rfl⟩
          have HQ := hide (HB1.out.trans ((HB.out.trans (hq.mono HB.out.size)).mono HB1.out.size))
          clear hq
          go_wp2_with fail
          go_ret2
          exact ⟨by rw [PO.out, FN.out]; rfl, HQ.out⟩
      · have mI : ¬ (i : Int) < (l.length : Int) := by omega
        have FN : Hid (fndL l ⟨xr, xc, xf, xs, xv⟩ = false) := hide (by unfold fndL; rw [PO.out, List.getElem?_eq_none (by omega)])
        go_wp2_with fail
        refine wp_region_quiet_below (by kernel_rfl) (by kernel_rfl) ?_
        repeat (go_big_quiet_step (first
          | fail))
        refine wpQuiet_nil ?_
        rintro Wq ⟨⟨_, hq⟩, rfl⟩
        have HQ := hide (HB1.out.trans ((HB.out.trans (hq.mono HB.out.size)).mono HB1.out.size))
        clear hq
        go_wp2_with fail
        go_ret2
        exact ⟨by rw [PO.out, FN.out]; rfl, HQ.out⟩
set_option maxRecDepth 100000 in
set_option maxHeartbeats 2000000 in
theorem place_a (A : Option Addr) (cap : Nat) (l : List Ch) (x : Ch) (w : World) (h : CRow w A l) (hl : l.length ≤ 1000) (hm : mayL l = true) :
    Calls Try.prog 21 #[.slice A l.length cap, x.val] w fun e w' => e = .returned (.tuple #[.int .i64 (posL l x), .bool (fndL l x)]) ∧ Below w.heap.size w w' := by
  have S := hide fun (w' : World) (hb : Below w.heap.size w w') => search_a A cap l x w' (h.below hb) hl hm
  clear h hm
  generalize posL l x = z at *
  generalize fndL l x = b at *
  obtain ⟨xr, xc, xf, xs, xv⟩ := x
  unfold Ch.val at S ⊢
  simp only at S ⊢
  have hb1 := (Below.refl w.heap.size w).alloc (Nat.le_refl _) (.cells #[.int .i64 xr, .int .i64 xc, .int .i64 xf, .int .i64 xs, .int .i64 xv] 24)
  have bk := Blk.new w 24 #[.int .i64 xr, .int .i64 xc, .int .i64 xf, .int .i64 xs, .int .i64 xv]
  have hs1 : w.heap.size < (w.alloc (.cells #[.int .i64 xr, .int .i64 xc, .int .i64 xf, .int .i64 xs, .int .i64 xv] 24)).heap.size := by simp
  go_enter Try.func21, Try.ntmps21
  go_wp2_with fail
  generalize w.alloc (.cells #[.int .i64 xr, .int .i64 xc, .int .i64 xf, .int .i64 xs, .int .i64 xv] 24) = W1 at *
  have S1 := hide (S.out W1 hb1)
  have HB1 := hide hb1
  have q0 := bk.cell 0
  have q1 := bk.cell 1
  have q2 := bk.cell 2
  have q3 := bk.cell 3
  have q4 := bk.cell 4
  simp only [List.getElem?_toArray, List.getElem?_cons_zero, List.getElem?_cons_succ] at q0 q1 q2 q3 q4
  clear hb1 bk S
  go_wp2_with fail
  refine S1.out.mono ?_
  rintro e w2 ⟨rfl, hb2⟩
  have HB2 := hide (HB1.out.trans (hb2.mono HB1.out.size))
  clear hb2
  go_wp2_with fail
  go_ret2
  exact ⟨rfl, HB2.out⟩
end Go.Proofs.Ytnmaclpjddafnaa
