/- Numbers as texts: what is of no program's function. -/
import Derived.Test.YthcoelkpiflfeaaDoorRows
import Derived.Test.YthcoelkpiflfeaaDoorGround
import Derived.Lib.LaidTab
import Derived.Lib.SmallJoins
import Derived.Lib.ItoaLen
import Derived.Laws.IdiomStrings
import Derived.Sort.Grow
namespace Go.Proofs.YthcoelkpiflfeaaDoor
open Go.RowKit Go.Lib Go.Joins Go.Sort
set_option linter.unusedVariables false
set_option linter.unusedSimpArgs false
def bytes (l : List UInt8) : ByteArray := ⟨l.toArray⟩
theorem bytes_size (l : List UInt8) : (bytes l).size = l.length := by simp [bytes, ByteArray.size]
theorem bytes_app (a b : List UInt8) : bytes a ++ bytes b = bytes (a ++ b) := by apply ByteArray.ext; simp [bytes]
/-- The table of powers of ten, at every later world. -/
def Pow (w : World) : Prop := Lib.TabIs Tryd.prog w "internal/strconv.uint64pow10" .u64 Lib.pow10Tab ∧ 0 < w.heap.size
theorem Pow.below {w w' : World} {B : Nat} (h : Pow w) (hb : Below B w w') (hB : w.heap.size ≤ B) : Pow w' :=
  ⟨tab_stays (show Tryd.prog.globalNamed "internal/strconv.uint64pow10" = some 1 by kernel_rfl) h.1 hb hB, by have := hb.size; have := h.2; omega⟩
theorem below_grow (w : World) (k : Nat) (os : Array Obj) : Below w.heap.size w (grow (w.drewN k) os) := by
  refine ⟨rfl, rfl, rfl, ?_, fun i hi => ?_⟩
  · simp [grow, World.drewN]
  · simp only [grow, World.drewN]
    exact Array.getElem?_append_left hi
theorem conv_one (w : World) (c : Int) (d : UInt8) (hd : c = (d.toNat : Int)) : (convert 82 9 (.slice (some ⟨w.heap.size, 0, none⟩) 1 1)).run Tryd.prog (w.alloc (.cells #[.int .u8 c] 5)) = .ok (.string (bytes [d])) (w.alloc (.cells #[.int .u8 c] 5)) := by
  subst hd
  have := run_convert_bytes_back (P := Tryd.prog) (w.alloc (.cells #[.int .u8 (d.toNat : Int)] 5)) 82 9 5 ⟨w.heap.size, 0, none⟩ 1 [d] Tryd.underlying82 Tryd.underlying5 Tryd.underlying9 (fun j hj => by
    obtain rfl : j = 0 := by simpa using hj
    show (w.alloc (.cells #[.int .u8 (d.toNat : Int)] 5)).cell? ⟨w.heap.size, 0, none⟩ = _
    rw [(Blk.new w 5 #[.int .u8 (d.toNat : Int)]).cell]
    rfl)
  exact this
theorem dec_more {u : Nat} (h : ¬ u < 10) : bytes (decDigits u) = bytes (decDigits (u / 10)) ++ bytes (decDigits (u % 10)) := by
  rw [bytes_app, decDigits_one (show u % 10 < 10 by omega)]
  congr 1
  rw [decDigits, dif_neg h]
theorem dec_len (u : Nat) (h : u ≤ 9223372036854775808) : (bytes (decDigits u)).size ≤ 21 := by
  rw [bytes_size]
  have h1 : (itoa (-(u : Int))).length ≤ 21 := itoa_length_le _ (by omega) (by omega)
  by_cases h0 : 1 ≤ u
  · rw [itoa_neg u h0] at h1
    simp at h1
    omega
  · obtain rfl : u = 0 := by omega
    rw [decDigits_one (by omega)]
    decide
/-- The text of a number that is below 0. -/
theorem neg_small {n : Int} (h : n < 0) (h2 : Int.tdiv n 10 = 0) : ∃ u : Nat, -n = (u : Int) ∧ u < 10 ∧ bytes (itoa n) = bytes [45] ++ bytes (decDigits u) := by
  have h3 : -10 < n := by
    rcases Int.lt_or_le (-10) n with h4 | h4
    · exact h4
    · exfalso
      obtain ⟨u, hu⟩ := Int.eq_ofNat_of_zero_le (show 0 ≤ -n by omega)
      have e : n = -(u : Int) := by omega
      rw [e, Int.neg_tdiv] at h2
      have : Int.tdiv (u : Int) 10 = ((u / 10 : Nat) : Int) := rfl
      omega
  obtain ⟨u, hu⟩ := Int.eq_ofNat_of_zero_le (show 0 ≤ -n by omega)
  refine ⟨u, hu, by omega, ?_⟩
  have e : n = -(u : Int) := by omega
  rw [e, itoa_neg u (by omega), bytes_app]
  rfl
theorem neg_big {n : Int} (h : n < 0) (h2 : ¬ Int.tdiv n 10 = 0) : ∃ q r : Nat, -(Int.tdiv n 10) = (q : Int) ∧ -(Int.tmod n 10) = (r : Int) ∧ r < 10 ∧ (q : Int) * 10 ≤ -n ∧ bytes (itoa n) = bytes [45] ++ bytes (decDigits q) ++ bytes (decDigits r) := by
  obtain ⟨u, hu⟩ := Int.eq_ofNat_of_zero_le (show 0 ≤ -n by omega)
  have e : n = -(u : Int) := by omega
  subst e
  have e1 : Int.tdiv (u : Int) 10 = ((u / 10 : Nat) : Int) := rfl
  have e2 : Int.tmod (u : Int) 10 = ((u % 10 : Nat) : Int) := rfl
  rw [Int.neg_tdiv, e1] at h2
  refine ⟨u / 10, u % 10, by rw [Int.neg_tdiv, e1]; omega, by rw [Int.neg_tmod, e2]; omega, by omega, by omega, ?_⟩
  rw [itoa_neg u (by omega), bytes_app, bytes_app]
  congr 1
  rw [decDigits, dif_neg (by omega), decDigits_one (show u % 10 < 10 by omega)]
  simp
end Go.Proofs.YthcoelkpiflfeaaDoor
