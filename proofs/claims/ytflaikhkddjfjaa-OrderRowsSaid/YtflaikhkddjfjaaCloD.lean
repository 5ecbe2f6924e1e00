/- The contract of Clock.Tick; the walk of the statement ClockTicks. -/
import Derived.Test.YtflaikhkddjfjaaCloC
import Derived.Laws.CopyOwn
namespace Go.Proofs.Ytflaikhkddjfjaa
open Go.RowKit
set_option linter.unusedVariables false
set_option linter.unusedSimpArgs false

theorem OwnRow.made (w : World) (n : Nat) (h : n ≤ maxLen) : OwnRow (w.alloc (.cells (madeCells #[Value.int .i64 0] n) 3)) w.heap.size w.heap.size n (List.replicate n 0) := by
  refine ⟨madeCells #[Value.int .i64 0] n, Nat.le_refl _, heap_alloc_new w _, size_madeCells _ _, by simp, h, ?_⟩
  rw [toList_replicate_ints]
  simp [ints]
/-- The whole row known. -/
theorem OwnRow.whole {w : World} {B g : Nat} {l : List Int} (hB : B ≤ g) (hm : l.length ≤ maxLen) (h : w.heap[g]? = some (.cells (ints l).toArray 3 (0, 0))) : OwnRow w B g l.length l :=
  ⟨(ints l).toArray, hB, h, by simp [ints], Nat.le_refl _, hm, by rw [List.take_of_length_le (by simp [ints])]⟩
theorem splice_all (l : List Int) : splice (madeCells #[Value.int .i64 0] l.length).toList 0 (ints l) = ints l := by
  rw [toList_replicate_ints]
  simp [splice, ints]

set_option maxRecDepth 100000 in
set_option maxHeartbeats 1000000 in
theorem tick_a (A : Option Addr) (l : List Int) (cap : Nat) (r : Int) (w : World) (hr : Rd w w.heap.size A l) (hm : l.length ≤ maxLen) :
    Calls Try.prog 39 #[.slice A l.length cap, .int .i64 r] w fun e w' => ∃ A' cap', e = .returned (.tuple #[.slice A' (tickL l r).length cap', .int .i64 (tickE l r)]) ∧ Owned w' w.heap.size A' cap' (tickL l r) ∧ Below w.heap.size w w' := by
  by_cases hmay : mayB l = true
  · have hlen := mayB_len hmay
    have Hmay := hide hmay
    by_cases hr0 : 0 ≤ r ∧ r < l.length
    · obtain ⟨k, rfl⟩ := Int.eq_ofNat_of_zero_le hr0.1
      have hk : k < l.length := by omega
      obtain ⟨ad, rfl, hb, hc⟩ := rd_at hr hk
      obtain ⟨hx0, hx1⟩ := mayB_at hmay k hk
      generalize hx : l.getD k 0 = x at hc hx0 hx1
      have Hx := hide hx
      have Hr := hide hr
      by_cases hmost : x < 1099511627776
      · obtain ⟨hL, hE⟩ := tick_yes (tickOk_yes hmay ⟨hr0.1, hr0.2, by rw [Int.toNat_natCast, hx]; exact hmost⟩)
        rw [Int.toNat_natCast, hx] at hL
        rw [hL, hE]
        clear hL hE hx hr hmay hr0
        obtain ⟨hlen1, hlen2⟩ := hlen
        have hmk := fun W => run_make_row' (P := Try.prog) 30 3 (.int .i64 0) 8 Try.underlying30 int_info rfl .i64 .i64 l.length (by omega) (by omega) W
        have hneq : (x == 1099511627776) = false := by rw [beq_eq_false_iff_ne]; omega
        go_enter Try.func39, Try.ntmps39
        go_wp2_with (first
          | (go_at_call 46; refine (may_a _ _ _ _ _ Hr.out hm).mono ?_; rw [Hmay.out]; rintro e w' ⟨rfl, rfl⟩)
          | (with_reducible refine wpList_copy_splice rfl (.tmp 30) (.tmp 31) _ _ rfl 3 Try.underlying30 (by rw [Option.map_eq_some_iff]; obtain ⟨i0, h1, _, h3, _⟩ := info_parts int_info; exact ⟨i0, h1, h3⟩) (some ⟨w.heap.size, 0, none⟩) (some ad) l.length l.length l.length cap rfl rfl w.heap.size 0 (madeCells #[Value.int .i64 0] l.length).toList 3 ?c1 (ints l) ?c2 ?c3 ?c4 (ints_one l) w.heap.size w ?c5 (Nat.le_refl _) ?_))
        case c1 => rw [Array.toArray_toList]; exact heap_alloc_new w _
        case c2 => show (ints l).length = min l.length l.length; simp [ints]
        case c3 =>
          intro _ j u hu
          obtain ⟨ad', he, _, hcell⟩ := (Hr.out.alloc (Nat.le_refl _) (.cells (madeCells #[Value.int .i64 0] l.length) 3)).2 (by omega)
          injection he with he
          subst he
          exact hcell j u hu
        case c4 => simp [ints, size_madeCells]
        case c5 => exact (Below.refl _ _).alloc (Nat.le_refl _) _
        intro w1 hsp hbw1
        have hrow : OwnRow w1 w.heap.size w.heap.size l.length l := OwnRow.whole (Nat.le_refl _) hm (by have h := hsp.out; rw [splice_all] at h; exact h)
        have hc1 : w1.cell? ⟨w.heap.size, k, none⟩ = some (.int .i64 x) := by rw [← Hx.out]; exact hrow.cell k hk
        have hf1 := hrow.frozen k
        have Hrow := hide hrow
        clear hrow hsp
        go_wp2
        go_ret2
        exact ⟨_, _, by simp, (Hrow.out.set_ k (x + 1)).owned, hbw1.setCell (p := ⟨w.heap.size, k, none⟩) (Nat.le_refl _) _⟩
      · obtain ⟨hL, hE⟩ := tick_no (l := l) (r := k) (tickOk_no (by rw [Int.toNat_natCast, hx]; omega))
        rw [hL, hE]
        clear hL hE hx hr hmay hr0
        obtain ⟨hlen1, hlen2⟩ := hlen
        have hneq : (x == 1099511627776) = true := by rw [beq_iff_eq]; omega
        go_enter Try.func39, Try.ntmps39
        go_wp2_with (first
          | (go_at_call 46; refine (may_a _ _ _ _ _ Hr.out hm).mono ?_; rw [Hmay.out]; rintro e w' ⟨rfl, rfl⟩))
        go_ret2
        exact ⟨_, _, rfl, Owned.nil _ _, Below.refl _ _⟩
    · obtain ⟨hL, hE⟩ := tick_no (l := l) (r := r) (tickOk_no (by omega))
      rw [hL, hE]
      have Hr := hide hr
      clear hL hE hr hmay
      obtain ⟨hlen1, hlen2⟩ := hlen
      by_cases h0 : r < 0
      all_goals
        first
        | (have h1 : (l.length : Int) ≤ r := by omega
           have h2 : 0 ≤ r := by omega)
        | skip
        clear hr0
        go_enter Try.func39, Try.ntmps39
        go_wp2_with (first
          | (go_at_call 46; refine (may_a _ _ _ _ _ Hr.out hm).mono ?_; rw [Hmay.out]; rintro e w' ⟨rfl, rfl⟩))
        go_ret2
        exact ⟨_, _, rfl, Owned.nil _ _, Below.refl _ _⟩
  · obtain ⟨hL, hE⟩ := tick_no (l := l) (r := r) (tickOk_may (by simpa using hmay))
    rw [hL, hE]
    have Hmay := hide (show mayB l = false by simpa using hmay)
    have Hr := hide hr
    clear hL hE hr hmay
    go_enter Try.func39, Try.ntmps39
    go_wp2_with (first
      | (go_at_call 46; refine (may_a _ _ _ _ _ Hr.out hm).mono ?_; rw [Hmay.out]; rintro e w' ⟨rfl, rfl⟩))
    go_ret2
    exact ⟨_, _, rfl, Owned.nil _ _, Below.refl _ _⟩
end Go.Proofs.Ytflaikhkddjfjaa
