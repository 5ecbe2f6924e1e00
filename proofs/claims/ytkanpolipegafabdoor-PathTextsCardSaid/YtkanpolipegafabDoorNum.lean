/- Numbers as texts: strconv.Itoa by the shelf's contract, the reference's Digits and Number. -/
import Derived.Test.YtkanpolipegafabDoorRows
import Derived.Test.YtkanpolipegafabDoorBase
import Derived.Test.YtkanpolipegafabDoorShelf
import Derived.Lib.LaidTab
import Derived.Lib.SmallJoins
import Derived.Lib.ItoaLen
import Derived.Laws.IdiomStrings
namespace Go.Proofs.YtkanpolipegafabDoor
open Go.RowKit Go.Lib Go.Joins Go.Sort
set_option linter.unusedVariables false
set_option linter.unusedSimpArgs false
def bytes (l : List UInt8) : ByteArray := ⟨l.toArray⟩
theorem bytes_size (l : List UInt8) : (bytes l).size = l.length := by simp [bytes, ByteArray.size]
theorem bytes_app (a b : List UInt8) : bytes a ++ bytes b = bytes (a ++ b) := by apply ByteArray.ext; simp [bytes]
/-- The table of powers of ten, at every later world. -/
def Pow (w : World) : Prop := Lib.TabIs Tryd.prog w "internal/strconv.uint64pow10" .u64 Lib.pow10Tab ∧ 0 < w.heap.size
theorem Pow.below {w w' : World} {B : Nat} (h : Pow w) (hb : Below B w w') (hB : w.heap.size ≤ B) : Pow w' :=
  ⟨tab_stays (show Tryd.prog.globalNamed "internal/strconv.uint64pow10" = some 0 by kernel_rfl) h.1 hb hB, by have := hb.size; have := h.2; omega⟩
theorem below_grow (w : World) (k : Nat) (os : Array Obj) : Below w.heap.size w (grow (w.drewN k) os) := by
  refine ⟨rfl, rfl, rfl, ?_, fun i hi => ?_⟩
  · simp [grow, World.drewN]
  · simp only [grow, World.drewN]
    exact Array.getElem?_append_left hi
theorem itoa_a (n : Int) (w : World) (h0 : -9223372036854775808 ≤ n) (h1 : n ≤ 9223372036854775807) (hp : Pow w) :
    Calls Tryd.prog 15 #[.int .i64 n] w fun e w' => e = .returned (.string (bytes (itoa n))) ∧ Below w.heap.size w w' := by
  refine (Tryd.strconv_Itoa n h0 h1 w hp.1).mono ?_
  rintro e w' ⟨rfl, k, os, rfl⟩
  exact ⟨rfl, below_grow _ _ _⟩
theorem conv_one (w : World) (c : Int) (d : UInt8) (hd : c = (d.toNat : Int)) : (convert 26 9 (.slice (some ⟨w.heap.size, 0, none⟩) 1 1)).run Tryd.prog (w.alloc (.cells #[.int .u8 c] 5)) = .ok (.string (bytes [d])) (w.alloc (.cells #[.int .u8 c] 5)) := by
  subst hd
  have := run_convert_bytes_back (P := Tryd.prog) (w.alloc (.cells #[.int .u8 (d.toNat : Int)] 5)) 26 9 5 ⟨w.heap.size, 0, none⟩ 1 [d] Tryd.underlying26 Tryd.underlying5 Tryd.underlying9 (fun j hj => by
    obtain rfl : j = 0 := by simpa using hj
    show (w.alloc (.cells #[.int .u8 (d.toNat : Int)] 5)).cell? ⟨w.heap.size, 0, none⟩ = _
    rw [(Blk.new w 5 #[.int .u8 (d.toNat : Int)]).cell]
    rfl)
  exact this
set_option maxRecDepth 100000 in
theorem digit_b (u : Nat) (hu : u < 10) (w : World) : Calls Tryd.prog 13 #[.int .i64 u] w fun e w' => e = .returned (.string (bytes (decDigits u))) ∧ Below w.heap.size w w' := by
  have hlt : (u : Int) < 10 := by omega
  obtain ⟨d, hd, hd2⟩ : ∃ d : UInt8, decDigits u = [d] ∧ 48 + (u : Int) = (d.toNat : Int) := ⟨UInt8.ofNat (48 + u), decDigits_one hu, by rw [UInt8.toNat_ofNat']; omega⟩
  have kc := fun (w : World) => conv_one w (48 + u) d hd2
  rw [hd]
  clear hd hd2
  generalize bytes [d] = S at *
  go_enter Tryd.func13, Tryd.ntmps13
  go_wp2_with fail
  go_ret
  exact ⟨rfl, (Below.refl _ _).alloc (Nat.le_refl _) _⟩
theorem dec_more {u : Nat} (h : ¬ u < 10) : bytes (decDigits u) = bytes (decDigits (u / 10)) ++ bytes (decDigits (u % 10)) := by
  rw [bytes_app, decDigits_one (show u % 10 < 10 by omega)]
  congr 1
  rw [decDigits, dif_neg h]
theorem dec_len (u : Nat) (h : u ≤ 9223372036854775808) : (bytes (decDigits u)).size ≤ 21 := by
  rw [bytes_size]
  have h1 : (itoa (-(u : Int))).length ≤ 21 := itoa_length_le _ (by omega) (by omega)
  by_cases h0 : 1 ≤ u
  · rw [itoa_neg u h0] at h1
    simp at h1
    omega
  · obtain rfl : u = 0 := by omega
    rw [decDigits_one (by omega)]
    decide
set_option maxRecDepth 100000 in
theorem digits_b (u : Nat) : ∀ (hu : u ≤ 9223372036854775807) (w : World), Calls Tryd.prog 13 #[.int .i64 u] w fun e w' => e = .returned (.string (bytes (decDigits u))) ∧ Below w.heap.size w w' := by
  induction u using Nat.strongRecOn with
  | _ u ih =>
    intro hu w
    by_cases hlt : u < 10
    · exact digit_b u hlt w
    · have hltI : ¬ (u : Int) < 10 := by omega
      have IH := hide ih
      have E := hide (dec_more hlt)
      have e1 : Int.tdiv (u : Int) 10 = ((u / 10 : Nat) : Int) := rfl
      have e2 : Int.tmod (u : Int) 10 = ((u % 10 : Nat) : Int) := rfl
      have l1 := dec_len (u / 10) (by omega)
      have l2 := dec_len (u % 10) (by omega)
      have D1 := hide (ih (u / 10) (by omega) (by omega))
      have D2 := hide (digit_b (u % 10) (by omega))
      rw [E.out]
      clear ih
      generalize bytes (decDigits (u / 10)) = S1 at *
      generalize bytes (decDigits (u % 10)) = S2 at *
      have hl : ¬ 9223372036854775807 < S1.size + S2.size := by omega
      have w1 : wrap64 ((u / 10 : Nat) : Int) = ((u / 10 : Nat) : Int) := (by unfold wrap64; omega)
      have w2 : wrap64 ((u % 10 : Nat) : Int) = ((u % 10 : Nat) : Int) := (by unfold wrap64; omega)
      generalize u / 10 = q at *
      generalize u % 10 = r at *
      clear hlt
      go_enter Tryd.func13, Tryd.ntmps13
      go_wp2_with fail
      refine (D1.out w).mono ?_
      rintro e w1 ⟨rfl, hb1⟩
      have B1 := hide hb1
      clear hb1
      go_wp2_with fail
      refine (D2.out w1).mono ?_
      rintro e w2 ⟨rfl, hb2⟩
      have B2 := hide (B1.out.trans (hb2.mono B1.out.size))
      clear hb2
      go_wp2_with fail
      go_ret
      exact ⟨rfl, B2.out⟩
/-- The text of a number that is below 0. -/
theorem neg_small {n : Int} (h : n < 0) (h2 : Int.tdiv n 10 = 0) : ∃ u : Nat, -n = (u : Int) ∧ u < 10 ∧ bytes (itoa n) = bytes [45] ++ bytes (decDigits u) := by
  have h3 : -10 < n := by
    rcases Int.lt_or_le (-10) n with h4 | h4
    · exact h4
    · exfalso
      obtain ⟨u, hu⟩ := Int.eq_ofNat_of_zero_le (show 0 ≤ -n by omega)
      have e : n = -(u : Int) := by omega
      rw [e, Int.neg_tdiv] at h2
      have : Int.tdiv (u : Int) 10 = ((u / 10 : Nat) : Int) := rfl
      omega
  obtain ⟨u, hu⟩ := Int.eq_ofNat_of_zero_le (show 0 ≤ -n by omega)
  refine ⟨u, hu, by omega, ?_⟩
  have e : n = -(u : Int) := by omega
  rw [e, itoa_neg u (by omega), bytes_app]
  rfl
theorem neg_big {n : Int} (h : n < 0) (h2 : ¬ Int.tdiv n 10 = 0) : ∃ q r : Nat, -(Int.tdiv n 10) = (q : Int) ∧ -(Int.tmod n 10) = (r : Int) ∧ r < 10 ∧ (q : Int) * 10 ≤ -n ∧ bytes (itoa n) = bytes [45] ++ bytes (decDigits q) ++ bytes (decDigits r) := by
  obtain ⟨u, hu⟩ := Int.eq_ofNat_of_zero_le (show 0 ≤ -n by omega)
  have e : n = -(u : Int) := by omega
  subst e
  have e1 : Int.tdiv (u : Int) 10 = ((u / 10 : Nat) : Int) := rfl
  have e2 : Int.tmod (u : Int) 10 = ((u % 10 : Nat) : Int) := rfl
  rw [Int.neg_tdiv, e1] at h2
  refine ⟨u / 10, u % 10, by rw [Int.neg_tdiv, e1]; omega, by rw [Int.neg_tmod, e2]; omega, by omega, by omega, ?_⟩
  rw [itoa_neg u (by omega), bytes_app, bytes_app]
  congr 1
  rw [decDigits, dif_neg (by omega), decDigits_one (show u % 10 < 10 by omega)]
  simp
set_option maxRecDepth 100000 in
theorem number24_b (n : Int) (h0 : -9223372036854775808 ≤ n) (h1 : n ≤ 9223372036854775807) (w : World) : Calls Tryd.prog 10 #[.int .i64 n] w fun e w' => e = .returned (.string (bytes (itoa n))) ∧ Below w.heap.size w w' := by
  by_cases hn : 0 ≤ n
  · obtain ⟨u, rfl⟩ := Int.eq_ofNat_of_zero_le hn
    rw [itoa_nonneg]
    have D := hide (digits_b u (by omega))
    generalize bytes (decDigits u) = S at *
    go_enter Tryd.func10, Tryd.ntmps10
    go_wp2_with fail
    refine (D.out w).mono ?_
    rintro e w1 ⟨rfl, hb1⟩
    go_wp2_with fail
    go_ret
    exact ⟨rfl, hb1⟩
  · by_cases hd : Int.tdiv n 10 = 0
    · obtain ⟨u, hu, hu2, he⟩ := neg_small (by omega) hd
      rw [he]
      have l1 := dec_len u (by omega)
      have D := hide (digit_b u hu2)
      generalize bytes (decDigits u) = S at *
      have hl : ¬ 9223372036854775807 < 1 + S.size := by omega
      have hw : wrap64 (-n) = (u : Int) := by rw [hu]; unfold wrap64; omega
      go_enter Tryd.func10, Tryd.ntmps10
      go_wp2_with fail
      refine (D.out w).mono ?_
      rintro e w1 ⟨rfl, hb1⟩
      go_wp2_with fail
      go_ret
      exact ⟨rfl, hb1⟩
    · obtain ⟨q, r, hq, hr, hr2, hqn, he⟩ := neg_big (by omega) hd
      rw [he]
      have hqm : q ≤ 9223372036854775807 := by omega
      have l1 := dec_len q (by omega)
      have l2 := dec_len r (by omega)
      have D1 := hide (digits_b q hqm)
      have D2 := hide (digit_b r hr2)
      generalize bytes (decDigits q) = S1 at *
      generalize bytes (decDigits r) = S2 at *
      have hl : ¬ 9223372036854775807 < 1 + S1.size := by omega
      have hl2 : ¬ 9223372036854775807 < 1 + S1.size + S2.size := by omega
      have hw1 : wrap64 (Int.tdiv n 10) = Int.tdiv n 10 := by unfold wrap64; omega
      have hw2 : wrap64 (-Int.tdiv n 10) = (q : Int) := by rw [hq]; unfold wrap64; omega
      have hw3 : wrap64 (-Int.tmod n 10) = (r : Int) := by rw [hr]; unfold wrap64; omega
      have hd' : (Int.tdiv n 10 == 0) = false := by simpa using hd
      clear he
      go_enter Tryd.func10, Tryd.ntmps10
      go_wp2_with fail
      refine (D1.out w).mono ?_
      rintro e w1 ⟨rfl, hb1⟩
      have B1 := hide hb1
      clear hb1
      go_wp2_with fail
      refine (D2.out w1).mono ?_
      rintro e w2 ⟨rfl, hb2⟩
      have B2 := hide (B1.out.trans (hb2.mono B1.out.size))
      clear hb2
      go_wp2_with fail
      go_ret
      exact ⟨rfl, B2.out⟩
end Go.Proofs.YtkanpolipegafabDoor
