/- Numbers as texts: strconv.FormatInt by the shelf's contract, the reference's Digits and Numbers (layers 3, 5, 16). -/
import Derived.Test.YthcoelkpiflfeaaDoorRows
import Derived.Test.YthcoelkpiflfeaaDoorNumP
import Derived.Test.YthcoelkpiflfeaaDoorShelf
import Derived.Lib.LaidTab
import Derived.Lib.SmallJoins
import Derived.Lib.ItoaLen
import Derived.Laws.IdiomStrings
namespace Go.Proofs.YthcoelkpiflfeaaDoor
open Go.RowKit Go.Lib Go.Joins Go.Sort
set_option linter.unusedVariables false
set_option linter.unusedSimpArgs false
theorem format_a (n : Int) (w : World) (h0 : -9223372036854775808 ≤ n) (h1 : n ≤ 9223372036854775807) (hp : Pow w) :
    Calls Tryd.prog 48 #[.int .i64 n, .int .i64 10] w fun e w' => e = .returned (.string (bytes (itoa n))) ∧ Below w.heap.size w w' := by
  refine (Tryd.strconv_FormatInt_10 n h0 h1 w hp.1).mono ?_
  rintro e w' ⟨rfl, k, os, rfl⟩
  exact ⟨rfl, below_grow _ _ _⟩
set_option maxRecDepth 100000 in
theorem digits_b (u : Nat) : ∀ (hu : u ≤ 9223372036854775807) (w : World), Calls Tryd.prog 50 #[.int .i64 u] w fun e w' => e = .returned (.string (bytes (decDigits u))) ∧ Below w.heap.size w w' := by
  induction u using Nat.strongRecOn with
  | _ u ih =>
    intro hu w
    have hr : u % 10 < 10 := by omega
    obtain ⟨d, hd, hd2⟩ : ∃ d : UInt8, decDigits (u % 10) = [d] ∧ 48 + ((u % 10 : Nat) : Int) = (d.toNat : Int) := ⟨UInt8.ofNat (48 + u % 10), decDigits_one hr, by rw [UInt8.toNat_ofNat']; omega⟩
    have kc := fun (w : World) => conv_one w (48 + ((u % 10 : Nat) : Int)) d hd2
    have e2 : Int.tmod (u : Int) 10 = ((u % 10 : Nat) : Int) := rfl
    have w2 : wrap64 ((u % 10 : Nat) : Int) = ((u % 10 : Nat) : Int) := (by unfold wrap64; omega)
    have hrI : ((u % 10 : Nat) : Int) < 10 := by omega
    have hr0 : (0 : Int) ≤ ((u % 10 : Nat) : Int) := by omega
    by_cases hlt : u < 10
    · have hltI : (u : Int) < 10 := by omega
      have E : bytes (decDigits u) = bytes [d] := by rw [← hd, Nat.mod_eq_of_lt hlt]
      rw [E]
      clear E ih hd hd2 hlt hr
      generalize bytes [d] = S at *
      generalize hq : u % 10 = r at *
      clear hq
      go_enter Tryd.func50, Tryd.ntmps50
      go_wp2_with fail
      go_ret
      exact ⟨rfl, (Below.refl _ _).alloc (Nat.le_refl _) _⟩
    · have hltI : ¬ (u : Int) < 10 := by omega
      have E := hide (dec_more hlt)
      have e1 : Int.tdiv (u : Int) 10 = ((u / 10 : Nat) : Int) := rfl
      have l1 := dec_len (u / 10) (by omega)
      have l2 := dec_len (u % 10) (by omega)
      have D1 := hide (ih (u / 10) (by omega) (by omega))
      rw [E.out]
      rw [hd] at l2 ⊢
      clear ih hd hd2 hr E
      generalize bytes (decDigits (u / 10)) = S1 at *
      generalize bytes [d] = S2 at *
      have hl : ¬ 9223372036854775807 < S1.size + S2.size := by omega
      have w1 : wrap64 ((u / 10 : Nat) : Int) = ((u / 10 : Nat) : Int) := (by unfold wrap64; omega)
      generalize hq : u / 10 = q at *
      generalize hq2 : u % 10 = r at *
      clear hlt hq hq2
      go_enter Tryd.func50, Tryd.ntmps50
      go_wp2_with fail
      refine (D1.out _).mono ?_
      rintro e w1 ⟨rfl, hb1⟩
      have B1 := hide hb1
      clear hb1
      go_wp2_with fail
      go_ret
      exact ⟨rfl, ((Below.refl _ _).alloc (Nat.le_refl _) _).trans (B1.out.mono (by simp))⟩
theorem small_mod {n : Int} (h : Int.tdiv n 10 = 0) : Int.tmod n 10 = n := by
  have := Int.tmod_add_mul_tdiv n 10
  rw [h] at this
  omega
set_option maxRecDepth 100000 in
set_option maxHeartbeats 400000 in
theorem number05_s (n : Int) (hn : ¬ 0 ≤ n) (h0 : -9223372036854775808 ≤ n) (hd : Int.tdiv n 10 = 0) (w : World) : Calls Tryd.prog 31 #[.int .i64 n] w fun e w' => e = .returned (.string (bytes (itoa n))) ∧ Below w.heap.size w w' := by
  obtain ⟨u, hu, hu2, he⟩ := neg_small (by omega) hd
  rw [he]
  have hM := small_mod hd
  have l1 := dec_len u (by omega)
  have D := hide (digits_b u (by omega))
  generalize bytes (decDigits u) = S at *
  have hl : ¬ 9223372036854775807 < 1 + S.size := by omega
  have hw0 : wrap64 n = n := by unfold wrap64; omega
  have hw : wrap64 (-n) = (u : Int) := by rw [hu]; unfold wrap64; omega
  have hw9 : wrap64 0 = 0 := by unfold wrap64; omega
  have hg := hide h0
  clear he hu hu2 l1 h0
  go_enter Tryd.func31, Tryd.ntmps31
  go_wp2_with fail
  refine (D.out w).mono ?_
  rintro e w1 ⟨rfl, hb1⟩
  go_wp2_with fail
  go_ret
  exact ⟨rfl, hb1⟩
set_option maxRecDepth 100000 in
set_option maxHeartbeats 400000 in
theorem number05_m (n : Int) (hn : ¬ 0 ≤ n) (h0 : -9223372036854775808 ≤ n) (hd : ¬ Int.tdiv n 10 = 0) (w : World) : Calls Tryd.prog 31 #[.int .i64 n] w fun e w' => e = .returned (.string (bytes (itoa n))) ∧ Below w.heap.size w w' := by
  obtain ⟨q, r, hq, hr, hr2, hqn, he⟩ := neg_big (by omega) hd
  rw [he]
  have hqm : q ≤ 9223372036854775807 := by omega
  have l1 := dec_len q (by omega)
  have l2 := dec_len r (by omega)
  have D1 := hide (digits_b q hqm)
  have D2 := hide (digits_b r (by omega))
  generalize bytes (decDigits q) = S1 at *
  generalize bytes (decDigits r) = S2 at *
  have hl : ¬ 9223372036854775807 < 1 + S1.size := by omega
  have hl2 : ¬ 9223372036854775807 < 1 + S1.size + S2.size := by omega
  have e1 : Int.tdiv n 10 = -(q : Int) := by omega
  have e2 : Int.tmod n 10 = -(r : Int) := by omega
  have w1 : wrap64 (-(q : Int)) = -(q : Int) := by unfold wrap64; omega
  have w2 : wrap64 (q : Int) = (q : Int) := by unfold wrap64; omega
  have w3 : wrap64 (-(r : Int)) = -(r : Int) := by unfold wrap64; omega
  have w4 : wrap64 (r : Int) = (r : Int) := by unfold wrap64; omega
  have hq0 : ((-(q : Int)) != 0) = true := by
    have : ¬ (-(q : Int)) = 0 := by omega
    simpa using this
  have hq1 : ((-(q : Int)) == 0) = false := by
    have : ¬ (-(q : Int)) = 0 := by omega
    simpa using this
  have hg := hide h0
  clear he hq hr hr2 hqn hqm l1 l2 h0 hd
  go_enter Tryd.func31, Tryd.ntmps31
  go_wp2_with fail
  refine (D1.out w).mono ?_
  rintro e w1 ⟨rfl, hb1⟩
  have B1 := hide hb1
  clear hb1
  go_wp2_with fail
  refine (D2.out w1).mono ?_
  rintro e w2 ⟨rfl, hb2⟩
  have B2 := hide (B1.out.trans (hb2.mono B1.out.size))
  clear hb2
  go_wp2_with fail
  go_ret
  exact ⟨rfl, B2.out⟩
set_option maxRecDepth 100000 in
theorem number05_b (n : Int) (h0 : -9223372036854775808 ≤ n) (h1 : n ≤ 9223372036854775807) (w : World) : Calls Tryd.prog 31 #[.int .i64 n] w fun e w' => e = .returned (.string (bytes (itoa n))) ∧ Below w.heap.size w w' := by
  by_cases hn : 0 ≤ n
  · obtain ⟨u, rfl⟩ := Int.eq_ofNat_of_zero_le hn
    rw [itoa_nonneg]
    have D := hide (digits_b u (by omega))
    generalize bytes (decDigits u) = S at *
    go_enter Tryd.func31, Tryd.ntmps31
    go_wp2_with fail
    refine (D.out w).mono ?_
    rintro e w1 ⟨rfl, hb1⟩
    go_wp2_with fail
    go_ret
    exact ⟨rfl, hb1⟩
  · by_cases hd : Int.tdiv n 10 = 0
    · exact number05_s n hn h0 hd w
    · exact number05_m n hn h0 hd w
set_option maxRecDepth 100000 in
theorem number16_b (n : Int) (h0 : -9223372036854775808 ≤ n) (h1 : n ≤ 9223372036854775807) (w : World) : Calls Tryd.prog 30 #[.int .i64 n] w fun e w' => e = .returned (.string (bytes (itoa n))) ∧ Below w.heap.size w w' := by
  have D := hide (number05_b n h0 h1)
  generalize bytes (itoa n) = S at *
  have hw : wrap64 n = n := by unfold wrap64; omega
  go_enter Tryd.func30, Tryd.ntmps30
  go_wp2_with fail
  refine (D.out w).mono ?_
  rintro e w1 ⟨rfl, hb1⟩
  go_wp2_with fail
  go_ret
  exact ⟨rfl, hb1⟩
end Go.Proofs.YthcoelkpiflfeaaDoor
