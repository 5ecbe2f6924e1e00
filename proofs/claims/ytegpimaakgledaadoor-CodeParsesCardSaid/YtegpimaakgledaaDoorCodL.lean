/- The text of a program, as it is written piece by piece. -/
import Derived.Test.YtegpimaakgledaaDoorRows
import Derived.Test.YtegpimaakgledaaDoorCodH
import Derived.Test.YtegpimaakgledaaDoorBuilderS
import Derived.Test.YtegpimaakgledaaDoorNumI
namespace Go.Proofs.YtegpimaakgledaaDoor
open Go Go.RowKit
open Go.Lib (itoa itoa_length_le)
set_option linter.unusedVariables false
set_option linter.unusedSimpArgs false
namespace Cod
theorem own_belowT {w w' : World} {B size n : Nat} {e : TypeId} {v : Value} {xs : List Value} (h : w.ownsRow B e size v n xs) (hb : Below w.heap.size w w') : w'.ownsRow B e size v n xs := by
  refine ⟨h.1, h.2.imp id ?_⟩
  rintro ⟨g, cap, cur, rfl, hge, hh, r⟩
  exact ⟨g, cap, cur, rfl, hge, (hb.block g (Array.getElem?_eq_some_iff.1 hh).1).trans hh, r⟩
theorem isB_belowT {T e : TypeId} {B b : Nat} {bs : List Value} {w w' : World} (h : Lib.IsBuilder T e B b bs w) (hbl : Below w.heap.size w w') : Lib.IsBuilder T e B b bs w' := by
  have hlt := isB_lt h
  rcases h with ⟨hB, v, hb, hown, hne⟩ | ⟨hB, v, hb, hown, hne⟩
  · exact .inl ⟨hB, v, (hbl.block b hlt).trans hb, own_belowT hown hbl, hne⟩
  · exact .inr ⟨hB, v, (hbl.block b hlt).trans hb, own_belowT hown hbl, hne⟩
theorem byteCells_bytesT (l x : List UInt8) : Lib.byteCells l ++ Lib.strCells (bytes x) = Lib.byteCells (l ++ x) := by simp [Lib.byteCells, Lib.strCells, bytes]
/-- The text of one instruction. -/
def txI (x : In) : List UInt8 := (opO x.op).nm.data.toList ++ ((if x.n = 0 then [] else 32 :: itoa x.n) ++ [10])
/-- The head of the text, with k of the arrays. -/
def txA (vars : Int) (arrs : List Int) (k : Nat) : List UInt8 := ([118, 97, 114, 115, 32] ++ itoa vars ++ [10, 97, 114, 114, 97, 121, 115]) ++ (arrs.take k).flatMap fun n => 32 :: itoa n
/-- The text, with k of the instructions. -/
def txC (vars : Int) (arrs : List Int) (cs : List In) (k : Nat) : List UInt8 := (txA vars arrs arrs.length ++ [10]) ++ (cs.take k).flatMap txI
def txP (vars : Int) (arrs : List Int) (cs : List In) : List UInt8 := txC vars arrs cs cs.length
theorem txA_s (vars : Int) (arrs : List Int) (k : Nat) (h : k < arrs.length) : txA vars arrs (k + 1) = txA vars arrs k ++ (32 :: itoa arrs[k]) := by
  unfold txA
  rw [List.take_succ_eq_append_getElem h, List.flatMap_append, List.append_assoc]
  simp
theorem txC_s (vars : Int) (arrs : List Int) (cs : List In) (k : Nat) (h : k < cs.length) : txC vars arrs cs (k + 1) = txC vars arrs cs k ++ txI cs[k] := by
  unfold txC
  rw [List.take_succ_eq_append_getElem h, List.flatMap_append, List.append_assoc]
  simp
theorem txA_len (vars : Int) (arrs : List Int) (hv : -9223372036854775808 ≤ vars ∧ vars ≤ 9223372036854775807) (ha : ∀ x ∈ arrs, -9223372036854775808 ≤ x ∧ x ≤ 9223372036854775807) : ∀ k, k ≤ arrs.length → (txA vars arrs k).length ≤ 40 + k * 22
  | 0, _ => by
    have := itoa_length_le vars hv.1 hv.2
    simp [txA]; omega
  | k + 1, h => by
    have h1 := txA_len vars arrs hv ha k (by omega)
    have h2 := ha _ (List.getElem_mem (show k < arrs.length by omega))
    have h3 := itoa_length_le _ h2.1 h2.2
    rw [txA_s vars arrs k (by omega), List.length_append, List.length_cons]
    omega
theorem nm_len (o : Int) : (opO o).nm.size ≤ 6 := by
  have hall : ∀ x ∈ opsT, x.nm.size ≤ 6 := by
    intro x hx
    simp only [opsT, List.mem_cons, List.not_mem_nil, or_false] at hx
    rcases hx with rfl | rfl | rfl | rfl | rfl | rfl | rfl | rfl | rfl | rfl | rfl | rfl | rfl | rfl | rfl | rfl | rfl | rfl | rfl | rfl | rfl | rfl | rfl | rfl | rfl | rfl | rfl | rfl | rfl | rfl <;> decide
  unfold opO
  rcases Nat.lt_or_ge o.toNat opsT.length with h | h
  · rw [List.getD_eq_getElem?_getD, List.getElem?_eq_getElem h]
    exact hall _ (List.getElem_mem h)
  · rw [List.getD_eq_getElem?_getD, List.getElem?_eq_none h]
    decide
theorem txI_len (x : In) (hx : x.ok) : (txI x).length ≤ 40 := by
  have h1 := nm_len x.op
  have h2 := itoa_length_le x.n hx.2.2.1 hx.2.2.2
  unfold txI
  simp only [List.length_append, List.length_cons, List.length_nil]
  have h3 : (opO x.op).nm.data.toList.length = (opO x.op).nm.size := Array.length_toList
  split <;> simp <;> omega
theorem txC_len (vars : Int) (arrs : List Int) (cs : List In) (hv : -9223372036854775808 ≤ vars ∧ vars ≤ 9223372036854775807) (ha : ∀ x ∈ arrs, -9223372036854775808 ≤ x ∧ x ≤ 9223372036854775807) (hc : ∀ x ∈ cs, x.ok) : ∀ k, k ≤ cs.length → (txC vars arrs cs k).length ≤ 50 + arrs.length * 22 + k * 40
  | 0, _ => by
    have := txA_len vars arrs hv ha arrs.length (Nat.le_refl _)
    simp [txC]; omega
  | k + 1, h => by
    have h1 := txC_len vars arrs cs hv ha hc k (by omega)
    have h3 := txI_len _ (hc _ (List.getElem_mem (show k < cs.length by omega)))
    rw [txC_s vars arrs cs k (by omega), List.length_append]
    omega
/-- What is written behind what stands. -/
theorem ws_c (B b : Nat) (l x : List UInt8) (w : World) (h : Lib.IsBuilder 60 5 B b (Lib.byteCells l) w) (hlen : l.length + x.length ≤ 140737488355328) (hBw : B ≤ w.heap.size) :
    Calls Tryd.prog 29 #[.pointer (some ⟨b, 0, none⟩), .string (bytes x)] w fun e w' => e = .returned (.tuple #[.int .i64 x.length, .nilIface]) ∧ Lib.IsBuilder 60 5 B b (Lib.byteCells (l ++ x)) w' ∧ Below B w w' ∧ Lib.OthersKept 5 (some b) w w' := by
  refine (write_string B b (Lib.byteCells l) (bytes x) w h (by rw [bytes_size, Lib.byteCells_length]; exact hlen) hBw).mono ?_
  rintro e w' ⟨rfl, h1, h2, h3⟩
  rw [byteCells_bytesT] at h1
  exact ⟨by rw [bytes_size], .inr h1, h2, h3⟩
set_option maxRecDepth 100000 in
set_option maxHeartbeats 2000000 in
theorem formatInt_a (n : Int) (w : World) (h0 : -9223372036854775808 ≤ n) (h1 : n ≤ 9223372036854775807) (hp : Pow w) :
    Calls Tryd.prog 32 #[.int .i64 n, .int .i64 10] w fun e w' => e = .returned (.string (bytes (itoa n))) ∧ Below w.heap.size w w' := by
  have F := hide (Tryd.internal_strconv_FormatInt_10 n h0 h1 w hp.1)
  clear h0 h1 hp
  go_enter Tryd.func32, Tryd.ntmps32
  go_wp2_with fail
  refine F.out.mono ?_
  rintro e w' ⟨rfl, k, os, rfl⟩
  have HB := hide (below_grow w k os)
  go_wp2_with fail
  go_ret
  exact ⟨rfl, HB.out⟩
end Cod
end Go.Proofs.YtegpimaakgledaaDoor
